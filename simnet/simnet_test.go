package simnet

import (
	"math"
	"slices"
	"testing"

	"rolodex/api"
)

func TestP6_1SendAndDeliver(t *testing.T) {
	n := New()
	b := []byte("abc")
	if n.Send(0, 1, b) != 1 || n.Sent() != 1 {
		t.Error("the first number")
	}
	clear(b)
	if id, e := n.Double(1); id != 2 || e != api.OK || n.Sent() != 2 {
		t.Error("Double")
	}
	from, to, got, e := n.Deliver(1, 2)
	if from != 0 || to != 1 || string(got) != "ab" || e != api.OK {
		t.Errorf("Deliver: %d %d %q %v", from, to, got, e)
	}
	if !slices.Equal(n.Packets(), []Packet{{2, 0, 1, 3}}) {
		t.Errorf("%v", n.Packets())
	}
	if n.Drop(1) != api.ENONE {
		t.Error("Drop of one that is gone")
	}
	if id, e := n.Double(1); id != 0 || e != api.ENONE || n.Sent() != 2 {
		t.Error("Double of one that is gone")
	}
	if from, to, got, e := n.Deliver(1, -1); from != 0 || to != 0 || got != nil || e != api.ENONE {
		t.Error("Deliver of one that is gone")
	}
	if n.Drop(2) != api.OK || len(n.Packets()) != 0 || n.Send(-1, -99, nil) != 3 {
		t.Error("numbers are not given twice")
	}
}

func TestP6_1Most(t *testing.T) {
	for _, c := range []struct {
		most int
		want string
	}{{-1, "abc"}, {math.MinInt, "abc"}, {0, ""}, {1, "a"}, {3, "abc"}, {4, "abc"}, {math.MaxInt, "abc"}} {
		n := New()
		n.Send(5, 6, []byte("abc"))
		if from, to, b, e := n.Deliver(1, c.most); from != 5 || to != 6 || string(b) != c.want || e != api.OK {
			t.Errorf("most %d: %q", c.most, b)
		}
	}
}

func TestP6_1Doubles(t *testing.T) {
	n := New()
	n.Send(1, 2, []byte("x"))
	n.Send(3, 4, []byte("yy"))
	n.Double(1)
	if !slices.Equal(n.Packets(), []Packet{{1, 1, 2, 1}, {2, 3, 4, 2}, {3, 1, 2, 1}}) {
		t.Errorf("%v", n.Packets())
	}
	_, _, a, _ := n.Deliver(1, -1)
	a[0] = 'z'
	if _, _, b, _ := n.Deliver(3, -1); string(b) != "x" {
		t.Error("doubles share memory")
	}
	for _, id := range []int{0, -1, 4, math.MaxInt} {
		if n.Drop(id) != api.ENONE {
			t.Errorf("Drop(%d)", id)
		}
	}
}

func TestP6_2Clock(t *testing.T) {
	n := New()
	if n.Now() != 0 || n.Tick(0) != api.OK || n.Tick(-1) != api.EARG || n.Tick(math.MinInt64) != api.EARG || n.Now() != 0 {
		t.Error("at first")
	}
	if n.Tick(1<<60+1) != api.EARG || n.Tick(1<<60-1) != api.OK || n.Tick(2) != api.EARG || n.Tick(math.MaxInt64) != api.EARG {
		t.Error("beyond the end")
	}
	if n.Now() != 1<<60-1 || n.Tick(1) != api.OK || n.Now() != 1<<60 || n.Tick(0) != api.OK {
		t.Error("at the end")
	}
}

func TestP6_3Numbers(t *testing.T) {
	n := New()
	if v := n.Rand(); v != 16294208416658607535 {
		t.Errorf("the first: %d", v)
	}
	n.Feed(7)
	n.Feed(math.MaxUint64)
	if n.Rand() != 7 || n.Rand() != math.MaxUint64 {
		t.Error("those that are fed")
	}
	// The numbers of the seed 0 as they are published for this generator.
	for _, want := range []uint64{7960286522194355700, 487617019471545679, 17909611376780542444, 1961750202426094747} {
		if v := n.Rand(); v != want {
			t.Errorf("%d, want %d", v, want)
		}
	}
}
