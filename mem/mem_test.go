package mem

import (
	"fmt"
	"math"
	"math/rand"
	"slices"
	"strings"
	"testing"

	"rolodex/api"
)

func put(t *testing.T, m *Mem, l ...api.Item) {
	t.Helper()
	for _, x := range l {
		if e := m.Put(x); e != api.OK {
			t.Fatalf("Put(%v): %v", x, e)
		}
	}
}

var example = []api.Item{{Key: "b", Seq: 1, Value: "x"}, {Key: "a", Seq: 2, Value: "y"}, {Key: "a", Seq: 5, Gone: true}}

func TestExample(t *testing.T) {
	m := New()
	put(t, m, example...)
	if got := m.All(); !slices.Equal(got, []api.Item{example[2], example[1], example[0]}) {
		t.Errorf("%v", got)
	}
	if x, ok := m.Get("a", 4); x != example[1] || !ok {
		t.Error("Get")
	}
	if m.Bytes() != 53 || m.Len() != 3 || !slices.Equal(m.Heights(), []int{1, 1, 1}) {
		t.Error("Bytes, Len, Heights")
	}
	put(t, m, api.Item{Key: "c"})
	if !slices.Equal(m.Heights(), []int{1, 1, 1, 2}) {
		t.Error("a fourth item")
	}
}

func TestP9_1Put(t *testing.T) {
	m := New()
	key, value := strings.Repeat("k", api.MaxKey), strings.Repeat("v", api.MaxValue)
	for _, x := range []api.Item{{}, {Value: "x"}, {Key: key + "k"}, {Key: "a", Value: value + "v"}, {Key: "a", Gone: true, Value: "x"}} {
		if m.Put(x) != api.EARG {
			t.Errorf("%v may be", x)
		}
	}
	put(t, m, api.Item{Key: key, Seq: math.MaxUint64, Value: value}, api.Item{Key: key, Gone: true})
	for _, x := range []api.Item{{Key: key, Seq: math.MaxUint64}, {Key: key}, {Key: key, Gone: true}} {
		if m.Put(x) != api.EEXIST {
			t.Error("one that is there already")
		}
	}
	if m.Len() != 2 || m.Bytes() != 32+2*len(key)+len(value) {
		t.Error("refused items count")
	}
	if x, ok := m.Get("a", 9); x != (api.Item{}) || ok {
		t.Error("a key that is not there")
	}
	if x, ok := m.Get(key, math.MaxUint64-1); !x.Gone || !ok {
		t.Error("an item that is Gone")
	}
	if x, ok := m.Get(key+"x", math.MaxUint64); x != (api.Item{}) || ok {
		t.Error("behind the last one")
	}
}

func TestP9_1From(t *testing.T) {
	m := New()
	put(t, m, example...)
	from, all := m.From("a"), m.From("")
	late := m.From("aa")
	put(t, m, api.Item{Key: "a", Seq: 9}, api.Item{Key: "ab", Seq: 9}, api.Item{Key: "z"})
	want := []api.Item{example[2], example[1], example[0]}
	for range 2 {
		if got := slices.Collect(from); !slices.Equal(got, want) {
			t.Errorf("%v", got)
		}
	}
	if got := slices.Collect(all); !slices.Equal(got, want) {
		t.Errorf("%v", got)
	}
	if got := slices.Collect(late); !slices.Equal(got, want[2:]) {
		t.Errorf("%v", got)
	}
	for x := range m.From("ab") {
		if x.Seq != 9 {
			t.Error("what was put later")
		}
		put(t, m, api.Item{Key: "ac"})
		break
	}
	put(t, m, api.Item{Key: "zz", Seq: math.MaxUint64})
	if got := slices.Collect(m.From("zz")); len(got) != 1 {
		t.Error("the greatest number")
	}
	if got := slices.Collect(New().From("")); len(got) != 0 {
		t.Error("nothing")
	}
}

func TestP9_2Heights(t *testing.T) {
	m := New()
	want := map[string]int{}
	for i := range 5000 {
		key := fmt.Sprintf("%05d", i*7919%5000)
		put(t, m, api.Item{Key: key})
		if m.Put(api.Item{Key: key}) != api.EEXIST {
			t.Fatal("twice")
		}
		h, n := 1, i+1
		for n%4 == 0 {
			h, n = h+1, n/4
		}
		want[key] = h
	}
	for i, h := range m.Heights() {
		if key := fmt.Sprintf("%05d", i); want[key] != h {
			t.Fatalf("%s: %d, want %d", key, h, want[key])
		}
	}
	if height(1<<22) != 12 || height(1<<24) != 12 || height(1<<20) != 11 {
		t.Error("at most 12")
	}
}

func TestP9_3Orders(t *testing.T) {
	var l []api.Item
	for i := range 300 {
		l = append(l, api.Item{Key: fmt.Sprintf("%02d", i/7), Seq: uint64(100 - i%7), Value: fmt.Sprint(i)})
	}
	r := rand.New(rand.NewSource(5))
	for range 20 {
		m := New()
		for _, i := range r.Perm(len(l)) {
			put(t, m, l[i])
		}
		if !slices.Equal(m.All(), l) {
			t.Fatal("not the same")
		}
		for range 200 {
			x := l[r.Intn(len(l))]
			if got, ok := m.Get(x.Key, x.Seq); got != x || !ok {
				t.Fatal("Get")
			}
		}
	}
}
