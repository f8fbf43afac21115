package view

import (
	"reflect"
	"slices"
	"testing"

	"rolodex/api"
	"rolodex/crdt"
)

func entry(contact, field, value string, dev int, n uint64) api.Entry {
	return api.Entry{Dot: api.Dot{Dev: dev, N: n}, Contact: contact, Field: field, Value: value}
}

func state(t *testing.T, l ...api.Entry) *crdt.State {
	t.Helper()
	s := crdt.New()
	for _, x := range l {
		if _, e := s.Apply(api.Event{Dot: x.Dot, Op: api.Set, Contact: x.Contact, Field: x.Field, Value: x.Value}); e != api.OK {
			t.Fatal(e)
		}
	}
	return s
}

var example = []api.Entry{entry("c", "fn", "Ann", 0, 1), entry("c", "fn", "Bob", 1, 1), entry("c", "tel", "5", 0, 2)}

func TestExample(t *testing.T) {
	s := state(t, example...)
	if l, e := Get(s, "c"); e != api.OK || !slices.Equal(l, []Field{{"fn", "Bob", 2}, {"tel", "5", 1}}) {
		t.Errorf("%v", l)
	}
	if l := List(s); !slices.Equal(l, []Line{{"c", "Bob", 2}}) {
		t.Errorf("%v", l)
	}
	if l := Conflicts(s); !slices.Equal(l, example[:2]) {
		t.Errorf("%v", l)
	}
	if !slices.Equal(Find(s, "BO"), []string{"c"}) || len(Find(s, "an")) != 0 {
		t.Error("Find")
	}
}

func TestP15_1Get(t *testing.T) {
	s := state(t, entry("c", "b", "x", 0, 2), entry("c", "b", "y", 1, 1), entry("c", "b", "x", 2, 1), entry("c", "a", "", 0, 9), entry("d", "fn", "D", 3, 1))
	if l, e := Get(s, "c"); e != api.OK || !slices.Equal(l, []Field{{"a", "", 1}, {"b", "x", 2}}) {
		t.Errorf("%v", l)
	}
	for _, name := range []string{"", "e", "C"} {
		if l, e := Get(s, name); l != nil || e != api.ENONE {
			t.Errorf("Get(%q)", name)
		}
	}
	if _, e := Get(crdt.New(), "c"); e != api.ENONE {
		t.Error("of a state of nothing")
	}
}

func TestP15_1List(t *testing.T) {
	s := state(t, entry("z", "fn", "A", 0, 1), entry("b", "fn", "M", 0, 2), entry("a", "fn", "M", 0, 3), entry("N", "tel", "1", 0, 4), entry("N", "mail", "1", 0, 5), entry("q", "fn", "", 0, 6), entry("l", "FN", "A", 0, 7))
	want := []Line{{"q", "", 1}, {"z", "A", 1}, {"a", "M", 1}, {"b", "M", 1}, {"N", "N", 2}, {"l", "l", 1}}
	if l := List(s); !slices.Equal(l, want) {
		t.Errorf("%v", l)
	}
	if len(List(crdt.New())) != 0 || len(Find(crdt.New(), "")) != 0 || len(Conflicts(crdt.New())) != 0 {
		t.Error("of a state of nothing")
	}
}

func TestP15_1Find(t *testing.T) {
	s := state(t, entry("Ann", "tel", "5x", 0, 1), entry("bob", "fn", "ÄX", 0, 2), entry("bob", "nick", "JoAN", 0, 3), entry("c", "an", "1", 0, 4), entry("d", "f", "[", 0, 5), entry("e", "f", "aZq", 0, 6))
	for text, want := range map[string][]string{
		"": {"Ann", "bob", "c", "d", "e"}, "Zq": {"e"}, "zQ": {"e"}, "AN": {"Ann", "bob"}, "aN": {"Ann", "bob"}, "x": {"Ann", "bob"}, "Ä": {"bob"}, "ä": nil, "an5": nil, "{": nil, "[": {"d"}, "C": {"c"},
	} {
		if got := Find(s, text); !slices.Equal(got, want) {
			t.Errorf("Find(%q): %q", text, got)
		}
	}
}

func TestP15_1Winner(t *testing.T) {
	if x, ok := Winner(nil); ok || x != (api.Entry{}) {
		t.Error("of nothing")
	}
	a, b, c := entry("c", "f", "a", 5, 1), entry("c", "f", "b", 1, 2), entry("d", "g", "c", 1, 2)
	for _, l := range [][]api.Entry{{a, b, c}, {b, a, c}, {b, c, a}, {b}} {
		if x, ok := Winner(l); !ok || x != b {
			t.Errorf("%v: %v", l, x)
		}
	}
	if x, _ := Winner([]api.Entry{c, b}); x != c {
		t.Error("of one dot the first one")
	}
	if x, _ := Winner([]api.Entry{entry("", "", "", 1, 1), entry("", "", "", 2, 1), entry("", "", "", 0, 1)}); x.Dot.Dev != 2 {
		t.Error("of one number the greatest device")
	}
}

func TestP15_1Conflicts(t *testing.T) {
	same := []api.Entry{entry("a", "f", "x", 0, 1), entry("a", "f", "x", 1, 1), entry("b", "f", "x", 3, 1), entry("b", "f", "y", 2, 2)}
	s := state(t, append([]api.Entry{entry("a", "g", "1", 0, 5), entry("c", "f", "x", 0, 6)}, same...)...)
	if got := Conflicts(s); !slices.Equal(got, same) {
		t.Errorf("%v", got)
	}
}

func TestP15_2SameShowTheSame(t *testing.T) {
	a := state(t, example...)
	back := slices.Clone(example)
	slices.Reverse(back)
	b := state(t, back...)
	x, _ := Get(a, "c")
	y, _ := Get(b, "c")
	if !a.Same(b) || !reflect.DeepEqual(x, y) || !reflect.DeepEqual(List(a), List(b)) || !reflect.DeepEqual(Conflicts(a), Conflicts(b)) {
		t.Error("unlike")
	}
}
