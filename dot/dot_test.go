package dot

import (
	"bytes"
	"math"
	"math/rand"
	"reflect"
	"slices"
	"testing"

	"rolodex/api"
)

func add(t *testing.T, s *Set, l ...api.Dot) {
	t.Helper()
	for _, d := range l {
		if e := s.Add(d); e != api.OK {
			t.Fatalf("%v: %v", d, e)
		}
	}
}

func of(t *testing.T, l ...api.Dot) *Set {
	s := New()
	add(t, s, l...)
	return s
}

func at(dev int, n uint64) api.Dot { return api.Dot{Dev: dev, N: n} }

var wrong = []api.Dot{at(0, 0), at(-1, 1), at(api.MaxDevices, 1), at(math.MinInt, 1), at(math.MaxInt, 1), at(0, 1<<40+1), at(0, math.MaxUint64)}

func TestExample(t *testing.T) {
	s := of(t, at(2, 1), at(2, 3), at(2, 4), at(0, 5))
	if got := s.Parts(); !reflect.DeepEqual(got, []Part{{0, 0, []uint64{5}}, {2, 1, []uint64{3, 4}}}) {
		t.Errorf("%v", got)
	}
	add(t, s, at(2, 2))
	if got := s.Parts(); len(got) != 2 || got[1].Upto != 4 || len(got[1].More) != 0 {
		t.Errorf("%v", got)
	}
	if got := s.Encode(); !bytes.Equal(got, []byte{2, 0, 0, 1, 5, 2, 4, 0}) {
		t.Errorf("%v", got)
	}
}

func TestP13_1AddAndHas(t *testing.T) {
	s := New()
	for _, d := range wrong {
		if s.Add(d) != api.EARG || s.Has(d) || Good(d) {
			t.Errorf("%v may be", d)
		}
	}
	edge := []api.Dot{at(0, 1), at(15, 1<<40), at(15, 1)}
	add(t, s, edge...)
	add(t, s, edge...)
	for _, d := range edge {
		if !s.Has(d) || !Good(d) {
			t.Errorf("%v is not there", d)
		}
	}
	if s.Has(at(15, 2)) || s.Has(at(1, 1)) || len(New().Parts()) != 0 {
		t.Error("what is not there")
	}
}

func TestP13_1Limit(t *testing.T) {
	s := New()
	for i := range 4096 {
		add(t, s, at(3, uint64(2*i+3)))
	}
	before := s.Encode()
	if s.Add(at(3, 1<<30)) != api.ELIMIT || !bytes.Equal(s.Encode(), before) {
		t.Error("one too many")
	}
	add(t, s, at(3, 9), at(4, 5), at(3, 1), at(3, 2))
	add(t, s, at(3, 1<<30))
	if s.Add(at(3, 1<<31)) != api.ELIMIT {
		t.Error("one too many, again")
	}
	more := New()
	for i := range 4096 {
		add(t, more, at(3, uint64(2*i+100000)))
	}
	s.Join(more)
	if p := s.Parts()[0]; len(p.More) != 8192 {
		t.Errorf("joined: %d", len(p.More))
	}
	if s.Add(at(3, 4)) != api.ELIMIT || !s.Has(at(3, 5)) || s.Add(at(3, 5)) != api.OK {
		t.Error("More would still be too many")
	}
	if _, e := Decode(s.Encode()); e != api.EFORM {
		t.Error("more than may be are read")
	}
}

func TestP13_1LessWithinCopy(t *testing.T) {
	a, b, c := at(1, 1), at(0, 2), at(1, 2)
	for _, p := range [][2]api.Dot{{a, b}, {b, c}, {a, c}} {
		if !Less(p[0], p[1]) || Less(p[1], p[0]) || Less(p[0], p[0]) {
			t.Errorf("%v", p)
		}
	}
	s := of(t, a, c, at(1, 9))
	o := of(t, a, c, at(1, 9), b)
	if !s.Within(o) || o.Within(s) || !New().Within(s) || s.Within(New()) || !s.Within(s) {
		t.Error("Within")
	}
	if of(t, at(1, 9)).Within(of(t, a)) || !of(t, a, c).Within(s) {
		t.Error("Within of More")
	}
	q := s.Copy()
	add(t, s, at(1, 3), at(1, 7))
	add(t, q, at(1, 8))
	if s.Has(at(1, 8)) || q.Has(at(1, 7)) || q.Has(at(1, 3)) {
		t.Error("copies share")
	}
	p := s.Parts()
	p[0].More[0] = 77
	if s.Has(at(1, 77)) || !s.Has(at(1, 7)) {
		t.Error("Parts share")
	}
}

func TestP13_2Decode(t *testing.T) {
	for _, s := range []*Set{New(), of(t, at(0, 1)), of(t, at(15, 1<<40)), of(t, at(2, 1), at(2, 3), at(2, 4), at(0, 5), at(7, 1))} {
		b := s.Encode()
		o, e := Decode(b)
		if e != api.OK || !reflect.DeepEqual(o.Parts(), s.Parts()) {
			t.Errorf("%v", s.Parts())
		}
		for i := range b {
			if o, e := Decode(b[:i]); o != nil || e != api.EFORM {
				t.Errorf("%v cut to %d", b, i)
			}
		}
	}
	for _, b := range [][]byte{
		{0, 0}, {1, 16, 1, 0}, {1, 0, 0, 0}, {1, 0, 1, 1, 1}, {1, 0, 1, 1, 0}, {1, 0, 0, 1, 1}, {1, 0, 0, 2, 5, 0},
		{2, 1, 1, 0, 0, 1, 0}, {2, 1, 1, 0, 1, 1, 0}, {1, 0, 129, 128, 128, 128, 128, 32, 0}, {1, 0, 255, 255, 255, 255, 255, 31, 1, 2},
		{17, 0, 1, 0}, {1, 0, 0, 129, 32, 2},
	} {
		if o, e := Decode(b); o != nil || e != api.EFORM {
			t.Errorf("%v is read", b)
		}
	}
}

func TestP13_3Join(t *testing.T) {
	r := rand.New(rand.NewSource(1))
	for range 300 {
		var sets []*Set
		want := New()
		for range 4 {
			s := New()
			for range r.Intn(30) {
				d := at(r.Intn(3), uint64(1+r.Intn(20)))
				add(t, s, d)
				add(t, want, d)
			}
			sets = append(sets, s)
		}
		got := New()
		for _, i := range slices.Concat(r.Perm(4), r.Perm(4)) {
			before := sets[i].Encode()
			got.Join(sets[i])
			if !bytes.Equal(before, sets[i].Encode()) {
				t.Fatal("the other one was changed")
			}
		}
		got.Join(got)
		if !bytes.Equal(got.Encode(), want.Encode()) {
			t.Fatalf("%v, want %v", got.Parts(), want.Parts())
		}
		for _, s := range sets {
			if !s.Within(got) {
				t.Fatal("not within")
			}
		}
	}
}
