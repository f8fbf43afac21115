package merge

import (
	"cmp"
	"fmt"
	"math"
	"math/rand"
	"slices"
	"testing"

	"rolodex/api"
)

func item(key string, seq uint64, value string) api.Item {
	return api.Item{Key: key, Seq: seq, Value: value}
}

func gone(key string, seq uint64) api.Item { return api.Item{Key: key, Seq: seq, Gone: true} }

var example = []api.Item{gone("a", 5), item("a", 3, "x"), item("a", 1, "y"), item("b", 2, "z")}

func want(t *testing.T, what string, got []api.Item, items ...api.Item) {
	t.Helper()
	if !slices.Equal(got, items) {
		t.Errorf("%s: %v, want %v", what, got, items)
	}
}

func TestExamples(t *testing.T) {
	want(t, "Seen(4)", Seen(example, 4), example[1], example[3])
	want(t, "Seen(9)", Seen(example, 9), example[3])
	want(t, "Thin", Thin(example, nil, false), example[0], example[3])
	want(t, "Thin bottom", Thin(example, nil, true), example[3])
	want(t, "Thin 3", Thin(example, []uint64{3}, true), example[0], example[1], example[3])
}

func TestP10_1Merge(t *testing.T) {
	a := []api.Item{item("a", 5, "1"), item("b", 1, "1")}
	b := []api.Item{item("a", 7, "2"), item("a", 5, "2"), item("c", 0, "2")}
	c := []api.Item{item("a", 5, "3"), item("b", 2, "3"), item("b", 1, "3"), item("", 0, "")}
	got, e := Merge([][]api.Item{a, nil, b, c[:3]})
	want(t, "Merge", got, b[0], a[0], c[1], a[1], b[2])
	if e != api.OK {
		t.Error(e)
	}
	for _, l := range [][]api.Item{c, {a[0], a[0]}, {a[0], b[0]}, {a[1], a[0]}} {
		if got, e := Merge([][]api.Item{b, l}); got != nil || e != api.EORDER {
			t.Errorf("%v: %v", l, e)
		}
		for x := range Walk([][]api.Item{b, l}) {
			t.Errorf("Walk gives %v", x)
		}
	}
	if got, e := Merge(nil); len(got) != 0 || e != api.OK {
		t.Error("nothing")
	}
	got[0].Key = "z"
	if b[0].Key != "a" {
		t.Error("the answer shares an argument")
	}
	one, _ := Merge([][]api.Item{a})
	one[0].Key = "z"
	if a[0].Key != "a" {
		t.Error("the answer shares its only argument")
	}
}

func TestP10_1Walk(t *testing.T) {
	l := [][]api.Item{{item("a", 1, "x")}, {item("a", 2, "y"), item("b", 1, "")}}
	all, _ := Merge(l)
	walk := Walk(l)
	l[0][0], l[1] = item("q", 1, ""), nil
	for range 2 {
		want(t, "Walk", slices.Collect(walk), all...)
	}
	for x := range walk {
		if x != all[0] {
			t.Error("the first one")
		}
		break
	}
}

func TestP10_2Seen(t *testing.T) {
	l := []api.Item{item("b", 3, "1"), gone("a", 9), item("b", 5, "2"), item("a", 2, "3"), gone("c", 1)}
	want(t, "any list", Seen(l, math.MaxUint64), l[0])
	want(t, "at 5", Seen(l, 5), l[0], l[3])
	want(t, "at 2", Seen(l, 2), l[3])
	want(t, "at 0", Seen(l, 0))
	want(t, "of nothing", Seen(nil, 9))
}

func TestP10_3Thin(t *testing.T) {
	l := []api.Item{item("a", 9, ""), gone("a", 7), item("a", 5, ""), gone("a", 3), gone("a", 1), gone("b", 4), gone("b", 2)}
	want(t, "none", Thin(l, nil, false), l[0], l[5])
	want(t, "bottom", Thin(l, nil, true), l[0])
	want(t, "8, 6", Thin(l, []uint64{8, 6}, false), l[0], l[1], l[2], l[5])
	want(t, "at the numbers", Thin(l, []uint64{1, 3, 7}, false), l[0], l[1], l[3], l[4], l[5], l[6])
	want(t, "gone from below", Thin(l, []uint64{1, 3, 7}, true), l[0])
	want(t, "gone behind one", Thin(l, []uint64{7, 5, 3}, true), l[0], l[1], l[2])
	want(t, "0", Thin(l, []uint64{0}, false), l[0], l[5])
	want(t, "not sorted", Thin([]api.Item{l[1], l[0]}, nil, false))
	keep := []uint64{7, 1}
	Thin(l, keep[:1], false)
	if keep[0] != 7 || keep[1] != 1 {
		t.Error("keep was changed")
	}
}

func TestP10_4Random(t *testing.T) {
	r := rand.New(rand.NewSource(2))
	for range 500 {
		var lists [][]api.Item
		var all []api.Item
		for range r.Intn(6) {
			var l []api.Item
			for range r.Intn(12) {
				x := item(fmt.Sprint(r.Intn(4)), uint64(r.Intn(15)), fmt.Sprint(r.Intn(9)))
				x.Gone = r.Intn(3) == 0
				if !slices.ContainsFunc(l, func(y api.Item) bool { return y.Key == x.Key && y.Seq == x.Seq }) {
					l = append(l, x)
				}
			}
			slices.SortFunc(l, order)
			lists = append(lists, l)
			for _, x := range l {
				if !slices.ContainsFunc(all, func(y api.Item) bool { return order(x, y) == 0 }) {
					all = append(all, x)
				}
			}
		}
		slices.SortFunc(all, order)
		got, _ := Merge(lists)
		want(t, "Merge", got, all...)
		keep := []uint64{uint64(r.Intn(16)), uint64(r.Intn(16))}[:r.Intn(3)]
		for _, bottom := range []bool{false, true} {
			thin := Thin(all, keep, bottom)
			for _, q := range append([]uint64{math.MaxUint64}, keep...) {
				want(t, "Seen of Thin", Seen(thin, q), Seen(all, q)...)
			}
		}
	}
}

func order(a, b api.Item) int {
	return cmp.Or(cmp.Compare(a.Key, b.Key), cmp.Compare(b.Seq, a.Seq))
}
