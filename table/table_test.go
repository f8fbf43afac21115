package table

import (
	"fmt"
	"math"
	"math/rand"
	"slices"
	"strings"
	"testing"

	"rolodex/api"
)

var example = []api.Item{{Key: "a", Seq: 5, Value: "x"}, {Key: "a", Seq: 3, Gone: true}, {Key: "b", Seq: 1, Value: "y"}}

func built(t *testing.T, l []api.Item, block int) ([]byte, *Table) {
	t.Helper()
	b, e := Build(l, block)
	if e != api.OK {
		t.Fatal(e)
	}
	table, e := Open(b)
	if e != api.OK {
		t.Fatal(e)
	}
	return b, table
}

func many(n int) []api.Item {
	var l []api.Item
	for i := range n {
		x := api.Item{Key: fmt.Sprintf("key%05d", i/3), Seq: uint64(100 - i%3*7), Value: fmt.Sprint("v", i)}
		if i%5 == 0 {
			x.Gone, x.Value = true, ""
		}
		l = append(l, x)
	}
	return l
}

func TestExample(t *testing.T) {
	_, x := built(t, example, 2)
	for _, c := range []struct {
		key  string
		seq  uint64
		want api.Item
		ok   bool
	}{
		{"a", 9, example[0], true}, {"a", 5, example[0], true}, {"a", 4, example[1], true}, {"a", 3, example[1], true},
		{"a", 2, api.Item{}, false}, {"b", 1, example[2], true}, {"b", 0, api.Item{}, false}, {"", 9, api.Item{}, false}, {"c", 9, api.Item{}, false}, {"aa", 9, api.Item{}, false},
	} {
		if got, ok := x.Get(c.key, c.seq); got != c.want || ok != c.ok {
			t.Errorf("Get(%q, %d): %v %v", c.key, c.seq, got, ok)
		}
	}
	first, last := x.Bounds()
	if x.Len() != 3 || x.Blocks() != 2 || first != "a" || last != "b" {
		t.Error("Len, Blocks, Bounds")
	}
	if b, e := Build([]api.Item{example[2], example[0]}, 2); b != nil || e != api.EORDER {
		t.Error("not sorted")
	}
}

func TestP8_1Arguments(t *testing.T) {
	for _, block := range []int{0, -1, 1001, math.MinInt} {
		if b, e := Build([]api.Item{example[2], example[0]}, block); b != nil || e != api.EARG {
			t.Errorf("block %d: %v", block, e)
		}
	}
	key, value := strings.Repeat("k", api.MaxKey), strings.Repeat("v", api.MaxValue)
	for _, l := range [][]api.Item{
		{{Key: ""}}, {{Key: key + "k"}}, {{Key: "a", Value: value + "v"}}, {{Key: "a", Gone: true, Value: "x"}},
		{example[0], example[0]}, {example[1], example[0]}, {{Key: "a"}, {Key: "A"}},
	} {
		if b, e := Build(l, 1); b != nil || e != api.EORDER {
			t.Errorf("%v: %v", l, e)
		}
	}
	built(t, []api.Item{{Key: key, Seq: math.MaxUint64, Value: value}, {Key: key, Seq: 0, Gone: true}}, 1000)
}

func TestP8_1HowMany(t *testing.T) {
	l := many(10001)
	if b, e := Build(l, 7); b != nil || e != api.ELIMIT {
		t.Error("one item too many")
	}
	if _, x := built(t, l[:10000], 7); x.Len() != 10000 || x.Blocks() != 1429 {
		t.Error("as many as may be")
	}
	l[0], l[1] = l[1], l[0]
	if _, e := Build(l, 7); e != api.EORDER {
		t.Error("EORDER is named first")
	}
	_, x := built(t, nil, 5)
	if first, last := x.Bounds(); x.Len() != 0 || x.Blocks() != 0 || first != "" || last != "" || x.Has("") || x.Has("a") {
		t.Error("a table of nothing")
	}
}

func TestP8_1ChangesAreTold(t *testing.T) {
	b, _ := built(t, many(40), 8)
	r := rand.New(rand.NewSource(3))
	for i := range len(b) {
		for range 4 {
			c := append([]byte(nil), b...)
			for k := i; k < min(i+4, len(c)); k++ {
				c[k] ^= byte(r.Intn(256))
			}
			if string(c) == string(b) {
				continue
			}
			if x, e := Open(c); x != nil || e != api.ECORRUPT {
				t.Fatalf("a change at %d is not told", i)
			}
		}
		if x, e := Open(b[:i]); x != nil || e != api.ECORRUPT {
			t.Fatalf("cut to %d", i)
		}
	}
	if _, e := Open(append(b, 0)); e != api.ECORRUPT {
		t.Error("a byte behind")
	}
	if _, e := Open(nil); e != api.ECORRUPT {
		t.Error("no bytes")
	}
}

func TestP8_1OtherForms(t *testing.T) {
	good, _ := unsealed(laid(example, 2))
	wrong := [][]byte{laid([]api.Item{example[2], example[0]}, 2), laid([]api.Item{{Key: ""}}, 2), sealed(nil), sealed([]byte{1, 0}), sealed([]byte{0, 5}), sealed(append(good, 0)), sealed([]byte{255, 255, 3, 9})}
	other := append([]byte(nil), good...)
	other[3] = 'b' // the index's first key
	for i, b := range append(wrong, sealed(other)) {
		if x, e := Open(b); x != nil || e != api.ECORRUPT {
			t.Errorf("%d is a table", i)
		}
	}
}

func TestP8_1KeepsNothing(t *testing.T) {
	l := many(30)
	b, x := built(t, l, 4)
	clear(b)
	want := many(30)
	clear(l)
	if got := slices.Collect(x.From("")); !slices.Equal(got, want) {
		t.Error("the table changes with its bytes")
	}
}

func TestP8_2From(t *testing.T) {
	l := many(50)
	for _, block := range []int{1, 2, 3, 7, 50, 1000} {
		_, x := built(t, l, block)
		if x.Blocks() != (50+block-1)/block {
			t.Errorf("block %d: %d", block, x.Blocks())
		}
		for _, key := range []string{"", "key", "key00004", "key00004x", "key00016", "zz"} {
			var want []api.Item
			for _, y := range l {
				if y.Key >= key {
					want = append(want, y)
				}
			}
			from := x.From(key)
			for range 2 {
				if got := slices.Collect(from); !slices.Equal(got, want) {
					t.Errorf("From(%q): %v", key, got)
				}
			}
			for y := range from {
				if y != want[0] {
					t.Error("the first one")
				}
				break
			}
		}
	}
}

func TestP8_2Filter(t *testing.T) {
	l := many(3000)
	_, x := built(t, l, 16)
	for _, y := range l {
		if !x.Has(y.Key) {
			t.Fatalf("%q is not told", y.Key)
		}
	}
	wrong := 0
	for i := range 10000 {
		if x.Has(fmt.Sprintf("key%05dx", i)) {
			wrong++
		}
	}
	if wrong > 300 {
		t.Errorf("%d of 10000 other keys are told", wrong)
	}
	for i := range 1200 {
		for _, seq := range []uint64{0, 85, 86, 92, 93, 99, 100, math.MaxUint64} {
			key := fmt.Sprintf("key%05d", i)
			var want api.Item
			for _, y := range l {
				if y.Key == key && y.Seq <= seq {
					want = y
					break
				}
			}
			if got, ok := x.Get(key, seq); got != want || ok != (want.Key != "") {
				t.Fatalf("Get(%q, %d): %v", key, seq, got)
			}
		}
	}
}

func TestP8_3UnlikeBytes(t *testing.T) {
	seen := map[string]int{}
	lists := [][]api.Item{nil, {{Key: "a"}}, {{Key: "a", Gone: true}}, {{Key: "a", Seq: 1}}, {{Key: "a", Value: "b"}}, {{Key: "ab"}}, {{Key: "a"}, {Key: "b"}}, example, many(9)}
	for i, l := range lists {
		b, x := built(t, l, 3)
		if j, ok := seen[string(b)]; ok {
			t.Errorf("%d and %d", i, j)
		}
		seen[string(b)] = i
		if got := slices.Collect(x.From("")); !slices.Equal(got, l) {
			t.Errorf("%d: %v", i, got)
		}
	}
}
