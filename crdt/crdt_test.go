package crdt

import (
	"bytes"
	"fmt"
	"math"
	"math/rand"
	"reflect"
	"strings"
	"testing"

	"rolodex/api"
	"rolodex/dot"
)

func at(dev int, n uint64) api.Dot { return api.Dot{Dev: dev, N: n} }

func set(d api.Dot, contact, field, value string, kills ...api.Dot) api.Event {
	return api.Event{Dot: d, Op: api.Set, Contact: contact, Field: field, Value: value, Kills: kills}
}

func drop(d api.Dot, contact, field string, kills ...api.Dot) api.Event {
	return api.Event{Dot: d, Op: api.Drop, Contact: contact, Field: field, Kills: kills}
}

func apply(t *testing.T, s *State, l ...api.Event) {
	t.Helper()
	for _, e := range l {
		if _, err := s.Apply(e); err != api.OK {
			t.Fatalf("%v: %v", e, err)
		}
	}
}

func of(t *testing.T, l ...api.Event) *State {
	s := New()
	apply(t, s, l...)
	return s
}

func told(l []api.Entry) string {
	var s []string
	for _, x := range l {
		s = append(s, fmt.Sprintf("%s.%s=%s@%d.%d", x.Contact, x.Field, x.Value, x.Dot.Dev, x.Dot.N))
	}
	return strings.Join(s, " ")
}

func TestExample(t *testing.T) {
	s := New()
	e1, err := s.MakeSet(at(0, 1), "c", "fn", "Ann")
	if err != api.OK || !reflect.DeepEqual(e1, set(at(0, 1), "c", "fn", "Ann")) {
		t.Errorf("%v", e1)
	}
	apply(t, s, e1)
	if e, _ := s.MakeSet(at(1, 1), "c", "fn", "Anna"); !reflect.DeepEqual(e, set(at(1, 1), "c", "fn", "Anna", at(0, 1))) {
		t.Errorf("%v", e)
	}
	apply(t, s, set(at(1, 1), "c", "fn", "Anna"))
	if got := told(s.Entries()); got != "c.fn=Ann@0.1 c.fn=Anna@1.1" {
		t.Error(got)
	}
	e, _ := s.MakeDrop(at(0, 2), "c", "")
	apply(t, s, e, set(at(1, 2), "c", "tel", "5"))
	if got := told(s.Entries()); got != "c.tel=5@1.2" || len(e.Kills) != 2 {
		t.Error(got)
	}
}

func TestP14_1Apply(t *testing.T) {
	s := New()
	for i, c := range []struct {
		e       api.Event
		changed bool
		want    string
	}{
		{set(at(0, 1), "c", "f", "1"), true, "c.f=1@0.1"},
		{set(at(0, 1), "c", "f", "1"), false, "c.f=1@0.1"},
		{set(at(0, 1), "c", "f", "other"), false, "c.f=1@0.1"},
		{drop(at(0, 3), "c", "f", at(0, 2)), true, "c.f=1@0.1"},
		{set(at(0, 2), "c", "f", "2"), false, "c.f=1@0.1"},
		{set(at(0, 1), "c", "f", "other", at(5, 9)), true, "c.f=1@0.1"},
		{set(at(5, 9), "c", "f", "3"), false, "c.f=1@0.1"},
		{set(at(0, 3), "c", "f", "4", at(0, 1)), true, ""},
		{drop(at(1, 1), "c", "g"), true, ""},
		{set(at(2, 1), "b", "z", "1"), true, "b.z=1@2.1"},
		{set(at(3, 1), "b", "y", "1"), true, "b.y=1@3.1 b.z=1@2.1"},
		{set(at(1, 2), "b", "y", "2"), true, "b.y=1@3.1 b.y=2@1.2 b.z=1@2.1"},
		{set(at(2, 2), "a", "y", "2"), true, "a.y=2@2.2 b.y=1@3.1 b.y=2@1.2 b.z=1@2.1"},
	} {
		changed, err := s.Apply(c.e)
		if changed != c.changed || err != api.OK || told(s.Entries()) != c.want {
			t.Errorf("%d: %v %v %s", i, changed, err, told(s.Entries()))
		}
	}
	if got := s.Contacts(); !reflect.DeepEqual(got, []string{"a", "b"}) || told(s.Contact("a")) != "a.y=2@2.2" || len(s.Contact("c")) != 0 {
		t.Error("Contacts, Contact")
	}
	if !s.Seen().Has(at(5, 9)) || !s.Seen().Has(at(0, 2)) || s.Seen().Has(at(0, 4)) {
		t.Error("Seen")
	}
	s.Seen().Add(at(9, 9))
	s.Entries()[0].Value = "x"
	s.Contact("b")[0].Value = "x"
	if s.Seen().Has(at(9, 9)) || told(s.Entries()) != "a.y=2@2.2 b.y=1@3.1 b.y=2@1.2 b.z=1@2.1" {
		t.Error("answers share the state")
	}
}

func TestP14_1Limit(t *testing.T) {
	s := New()
	for i := range 4096 {
		apply(t, s, drop(at(1, uint64(2*i+3)), "c", ""))
	}
	before := s.Encode()
	for _, e := range []api.Event{set(at(1, 1<<30), "c", "f", "1"), set(at(0, 1), "c", "f", "1", at(1, 1<<30)), set(at(0, 1), "c", "f", "1", at(0, 7), at(1, 1<<30))} {
		if changed, err := s.Apply(e); changed || err != api.ELIMIT || !bytes.Equal(before, s.Encode()) {
			t.Errorf("%v: %v", e, err)
		}
	}
	apply(t, s, set(at(0, 1), "c", "f", "1", at(1, 5)))
}

func wrongEvents() []api.Event {
	long := strings.Repeat("x", api.MaxField+1)
	var many []api.Dot
	for i := range 65 {
		many = append(many, at(1, uint64(i+1)))
	}
	return []api.Event{
		{}, set(at(16, 1), "c", "f", ""), set(at(0, 0), "c", "f", ""), set(at(-1, 1), "c", "f", ""), set(at(0, 1<<40+1), "c", "f", ""),
		set(at(0, 1), "", "f", ""), set(at(0, 1), long, "f", ""), set(at(0, 1), "c", "", ""), set(at(0, 1), "c", long, ""),
		set(at(0, 1), "c", "f", strings.Repeat("v", api.MaxText+1)), set(at(0, 1), "c", "f", "", many...), set(at(0, 1), "c", "f", "", at(0, 1)),
		set(at(0, 1), "c", "f", "", at(2, 1), at(1, 1)), set(at(0, 1), "c", "f", "", at(2, 1), at(2, 1)), set(at(0, 1), "c", "f", "", at(2, 2), at(3, 1)), set(at(0, 1), "c", "f", "", at(2, 0)),
		drop(at(0, 1), "", ""), drop(at(0, 1), "c", long), {Dot: at(0, 1), Op: api.Drop, Contact: "c", Value: "x"},
		{Dot: at(0, 1), Op: 0, Contact: "c", Field: "f"}, {Dot: at(0, 1), Op: 3, Contact: "c", Field: "f"}, {Dot: at(0, 1), Op: -1, Contact: "c", Field: "f"},
	}
}

func rightEvents() []api.Event {
	name := strings.Repeat("x", api.MaxField)
	var many []api.Dot
	for i := range 64 {
		many = append(many, at(1, uint64(i+1)))
	}
	return []api.Event{
		set(at(0, 1), "c", "f", ""), set(at(15, 1<<40), name, name, strings.Repeat("v", api.MaxText), many...), drop(at(0, 1), "c", ""),
		drop(at(0, 1), "c", "f", at(2, 1), at(3, 1), at(0, 2)), set(at(3, 300), "ä", "\x00", "\xff"),
	}
}

func TestP14_1And4WhichMayBe(t *testing.T) {
	for i, e := range wrongEvents() {
		s := New()
		if changed, err := s.Apply(e); changed || err != api.EARG || Good(e) || !s.Same(New()) {
			t.Errorf("%d may be", i)
		}
		if b, err := EncodeEvent(e); b != nil || err != api.EARG {
			t.Errorf("%d is laid", i)
		}
	}
	for i, e := range rightEvents() {
		b, err := EncodeEvent(e)
		if !Good(e) || err != api.OK {
			t.Fatalf("%d may not be", i)
		}
		if got, err := DecodeEvent(b); err != api.OK || !reflect.DeepEqual(got, e) {
			t.Errorf("%d: %v", i, got)
		}
		for k := range b {
			if got, err := DecodeEvent(b[:k]); err != api.EFORM || !reflect.DeepEqual(got, api.Event{}) {
				t.Errorf("%d cut to %d", i, k)
			}
		}
		if _, err := DecodeEvent(append(b, 0)); err != api.EFORM {
			t.Errorf("%d: a byte behind", i)
		}
	}
	b, _ := EncodeEvent(set(at(3, 300), "c", "fn", "A", at(0, 1)))
	if !bytes.Equal(b, []byte{3, 172, 2, 1, 1, 'c', 2, 'f', 'n', 1, 'A', 1, 0, 1}) {
		t.Errorf("%v", b)
	}
	for _, b := range [][]byte{{0, 0, 1, 1, 'c', 1, 'f', 0, 0}, {0, 1, 1, 0, 1, 'f', 0, 0}, {0, 1, 1, 1, 'c', 0, 0, 0}, {0, 1, 2, 1, 'c', 0, 1, 'x', 0}, {0, 1, 0, 1, 'c', 1, 'f', 0, 0}, {0, 1, 1, 1, 'c', 1, 'f', 0, 1, 0, 1}} {
		if _, err := DecodeEvent(b); err != api.EFORM {
			t.Errorf("%v is read", b)
		}
	}
}

func TestP14_2Encode(t *testing.T) {
	if !bytes.Equal(New().Encode(), []byte{1, 0, 0}) {
		t.Error("of nothing")
	}
	s := of(t, set(at(1, 1), "b", "f", "x"), set(at(0, 2), "a", "g", ""), set(at(0, 1), "a", "g", "y", at(2, 9)))
	b := s.Encode()
	o, err := Decode(b)
	if err != api.OK || !o.Same(s) || !bytes.Equal(o.Encode(), b) || told(o.Entries()) != told(s.Entries()) {
		t.Error("Decode of Encode")
	}
	for i := range b {
		if o, err := Decode(b[:i]); o != nil || err != api.EFORM {
			t.Errorf("cut to %d", i)
		}
	}
	for _, b := range [][]byte{
		append(b, 0),
		{4, 1, 0, 1, 0, 1, 0, 2, 1, 'c', 1, 'f', 0},
		{4, 1, 0, 1, 0, 1, 0, 1, 0, 1, 'f', 0},
		{4, 1, 0, 1, 0, 1, 0, 1, 1, 'c', 0, 0},
		{4, 1, 0, 2, 0, 2, 0, 2, 1, 'c', 1, 'f', 0, 0, 1, 1, 'c', 1, 'f', 0},
		{4, 1, 0, 2, 0, 2, 0, 1, 1, 'c', 1, 'f', 0, 0, 1, 1, 'd', 1, 'f', 0},
		{4, 1, 0, 2, 0, 2, 0, 1, 1, 'd', 1, 'f', 0, 0, 2, 1, 'c', 1, 'f', 0},
		{2, 1, 0, 0}, {0, 0},
	} {
		if o, err := Decode(b); o != nil || err != api.EFORM {
			t.Errorf("%v is read", b)
		}
	}
	if o, err := Decode([]byte{4, 1, 0, 2, 0, 2, 0, 1, 1, 'c', 1, 'f', 0, 0, 2, 1, 'c', 1, 'f', 0}); err != api.OK || len(o.Entries()) != 2 {
		t.Error("a state of two entries")
	}
}

func TestP14_3Make(t *testing.T) {
	s := of(t, set(at(2, 2), "c", "f", "1"), set(at(1, 2), "c", "f", "2"), set(at(3, 1), "c", "g", "3"), set(at(4, 1), "d", "f", "4"))
	e, err := s.MakeSet(at(0, 1), "c", "f", "v")
	if err != api.OK || !reflect.DeepEqual(e, set(at(0, 1), "c", "f", "v", at(1, 2), at(2, 2))) {
		t.Errorf("%v", e)
	}
	e, err = s.MakeDrop(at(0, 1), "c", "g")
	if err != api.OK || !reflect.DeepEqual(e, drop(at(0, 1), "c", "g", at(3, 1))) {
		t.Errorf("%v", e)
	}
	e, err = s.MakeDrop(at(0, 1), "c", "")
	if err != api.OK || !reflect.DeepEqual(e, drop(at(0, 1), "c", "", at(3, 1), at(1, 2), at(2, 2))) {
		t.Errorf("%v", e)
	}
	for _, c := range []struct{ contact, field string }{{"x", ""}, {"x", "f"}, {"c", "h"}, {"", ""}} {
		if e, err := s.MakeDrop(at(0, 0), c.contact, c.field); err != api.ENONE || !reflect.DeepEqual(e, api.Event{}) {
			t.Errorf("%v: %v", c, err)
		}
	}
	if _, err := s.MakeDrop(at(0, 0), "c", ""); err != api.EARG {
		t.Error("a Drop with a dot that may not be")
	}
	for _, d := range []api.Dot{at(0, 0), at(1, 2)} {
		if e, err := s.MakeSet(d, "c", "f", ""); err != api.EARG || !reflect.DeepEqual(e, api.Event{}) {
			t.Errorf("%v: %v", d, err)
		}
	}
	if _, err := s.MakeSet(at(0, 1), "", "f", ""); err != api.EARG {
		t.Error("a Set without a contact")
	}
	if len(s.Entries()) != 4 {
		t.Error("s was changed")
	}
}

func TestP14_3ManyKills(t *testing.T) {
	s := New()
	for i := range 65 {
		apply(t, s, set(at(i%16, uint64(i/16+1)), "c", "f", "v"))
		e, err := s.MakeDrop(at(0, 99), "c", "")
		if i < 64 && (err != api.OK || len(e.Kills) != i+1) || i == 64 && (err != api.ELIMIT || e.Kills != nil) {
			t.Errorf("%d kills: %v", i+1, err)
		}
	}
	if _, err := s.MakeSet(at(0, 99), "c", "f", ""); err != api.ELIMIT {
		t.Error("a Set with 65 kills")
	}
	for _, d := range []api.Dot{at(0, 0), at(0, 1)} {
		if _, err := s.MakeSet(d, "c", "f", ""); err != api.EARG {
			t.Error("EARG counts ahead of ELIMIT")
		}
	}
	if _, err := s.MakeSet(at(0, 99), "c", "f", strings.Repeat("v", 513)); err != api.EARG {
		t.Error("EARG counts ahead of ELIMIT")
	}
}

// world makes events as devices would, each on what some devices saw.
func world(r *rand.Rand) []api.Event {
	devices := []*State{New(), New(), New()}
	var next [3]uint64
	var all []api.Event
	for range 25 {
		i := r.Intn(3)
		next[i]++
		contact, field := fmt.Sprint("c", r.Intn(2)), fmt.Sprint("f", r.Intn(2))
		e, err := devices[i].MakeSet(at(i, next[i]), contact, field, fmt.Sprint(r.Intn(9)))
		if r.Intn(3) == 0 {
			e, err = devices[i].MakeDrop(at(i, next[i]), contact, field[:2*r.Intn(2)])
		}
		if err != api.OK {
			next[i]--
			continue
		}
		all = append(all, e)
		devices[i].Apply(e)
		if r.Intn(2) == 0 {
			devices[r.Intn(3)].Join(devices[r.Intn(3)])
		}
	}
	return all
}

// model is what the chapter's words say that events come to.
func model(l []api.Event) (string, *dot.Set) {
	seen, killed := dot.New(), map[api.Dot]int{}
	for _, e := range l {
		seen.Add(e.Dot)
		for _, d := range e.Kills {
			seen.Add(d)
			killed[d] = 1
		}
	}
	var left []api.Event
	for _, e := range l {
		if e.Op == api.Set && killed[e.Dot] == 0 {
			left = append(left, set(e.Dot, e.Contact, e.Field, e.Value))
		}
	}
	s := New()
	for _, e := range left {
		s.Apply(e)
	}
	return told(s.Entries()), seen
}

func TestP14_5Joins(t *testing.T) {
	r := rand.New(rand.NewSource(8))
	for range 300 {
		all := world(r)
		want, seen := model(all)
		parts := []*State{New(), New(), New(), New()}
		for i, e := range all {
			apply(t, parts[i%4], e)
			if r.Intn(3) == 0 {
				apply(t, parts[r.Intn(4)], e)
			}
		}
		got := New()
		for _, i := range append(r.Perm(4), r.Intn(4)) {
			before := parts[i].Encode()
			got.Join(parts[i])
			if !bytes.Equal(before, parts[i].Encode()) {
				t.Fatal("the other one was changed")
			}
		}
		got.Join(got)
		grouped := parts[0].Copy()
		grouped.Join(parts[1])
		other := parts[2].Copy()
		other.Join(parts[3])
		grouped.Join(other)
		shuffled := New()
		for _, i := range r.Perm(len(all)) {
			apply(t, shuffled, all[i])
		}
		for _, s := range []*State{got, grouped, shuffled} {
			if told(s.Entries()) != want || !bytes.Equal(s.Seen().Encode(), seen.Encode()) || !s.Same(got) {
				t.Fatalf("%s, want %s", told(s.Entries()), want)
			}
		}
		for _, e := range all {
			before := got.Encode()
			if changed, _ := got.Apply(e); changed || !bytes.Equal(before, got.Encode()) {
				t.Fatal("an event that comes again makes a difference")
			}
		}
	}
}

func TestP14_1CopyAndSame(t *testing.T) {
	s := of(t, set(at(0, 1), "c", "f", "1"))
	o := s.Copy()
	if !o.Same(s) || !s.Same(o) {
		t.Error("a copy is the same")
	}
	apply(t, o, set(at(0, 2), "c", "f", "2", at(0, 1)))
	if o.Same(s) || told(s.Entries()) != "c.f=1@0.1" {
		t.Error("a copy shares")
	}
	if of(t, drop(at(0, 1), "c", "")).Same(New()) {
		t.Error("Seen makes a difference")
	}
	if of(t, set(at(0, 1), "c", "f", "1")).Same(of(t, set(at(0, 1), "c", "f", "2"))) {
		t.Error("a value makes a difference")
	}
	if changed, err := s.Apply(set(at(0, math.MaxUint64), "c", "f", "")); changed || err != api.EARG {
		t.Error("a number beyond all")
	}
}
