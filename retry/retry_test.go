package retry

import (
	"math"
	"testing"

	"rolodex/api"
)

func TestExample(t *testing.T) {
	x, e := New(4, 100)
	if e != api.OK || !x.Ready(math.MinInt64) || x.Fails() != 0 {
		t.Error("a new one")
	}
	if x.Fail(10, 0) != 12 || x.Ready(11) || !x.Ready(12) || x.Fails() != 1 {
		t.Error("failed once")
	}
	if x.Fail(12, 7) != 18 || x.Ready(17) || !x.Ready(18) || x.Fails() != 2 {
		t.Error("failed twice")
	}
	x.Well(18)
	if x.Fails() != 0 || !x.Ready(18) || x.Ready(17) {
		t.Error("well")
	}
	x.Fail(100, 0)
	x.Well(90)
	if !x.Ready(90) || x.Ready(89) {
		t.Error("well ahead of its time")
	}
	if x.Fail(20, 0) != 22 {
		t.Error("it begins anew")
	}
}

func TestP20_1Delay(t *testing.T) {
	for _, c := range []struct {
		base, most int64
		fails      int
		r          uint64
		want       int64
	}{
		{1, 1, 1, 0, 1}, {1, 1, 1, 5, 1}, {3, 100, 1, 0, 2}, {3, 100, 1, 1, 3}, {3, 100, 1, 2, 2}, {4, 100, 1, 2, 4}, {4, 100, 1, 3, 2}, {4, 100, 5, 0, 32}, {4, 100, 6, 0, 50}, {4, 100, 6, 50, 100}, {4, 100, 6, 51, 50},
		{4, 100, math.MaxInt, 0, 50}, {1, 1 << 40, 41, 0, 1 << 39}, {1, 1 << 40, 64, 1 << 39, 1 << 40}, {1<<40 - 1, 1 << 40, 2, 0, 1 << 39}, {5, 7, 2, math.MaxUint64, 4 + math.MaxUint64%4},
	} {
		if d, e := Delay(c.base, c.most, c.fails, c.r); d != c.want || e != api.OK {
			t.Errorf("%v: %d %v", c, d, e)
		}
	}
}

func TestP20_1And2Refused(t *testing.T) {
	for _, c := range [][2]int64{{0, 5}, {-1, 5}, {6, 5}, {1, 1<<40 + 1}, {1, math.MaxInt64}, {0, 0}, {math.MinInt64, math.MaxInt64}} {
		if x, e := New(c[0], c[1]); x != nil || e != api.EARG {
			t.Errorf("New(%v)", c)
		}
		if d, e := Delay(c[0], c[1], 1, 0); d != 0 || e != api.EARG {
			t.Errorf("Delay(%v)", c)
		}
	}
	for _, fails := range []int{0, -1, math.MinInt} {
		if d, e := Delay(1, 5, fails, 0); d != 0 || e != api.EARG {
			t.Errorf("fails %d", fails)
		}
	}
}

func TestP20_2Edges(t *testing.T) {
	x, _ := New(10, 1<<40)
	if x.Fail(1<<62-10, 9) != 1<<62-2 {
		t.Error("short of the end")
	}
	for _, now := range []int64{1<<62 - 3, 1 << 62, math.MaxInt64} {
		if x.Fail(now, 0) != 1<<62 || x.Ready(1<<62-1) || !x.Ready(1<<62) {
			t.Errorf("at %d", now)
		}
	}
	y, _ := New(10, 10)
	if y.Fail(math.MinInt64, 0) != math.MinInt64+5 || y.Ready(math.MinInt64+4) || !y.Ready(math.MinInt64+5) {
		t.Error("at the least time")
	}
	for i := range 100 {
		y.Fail(0, 0)
		if y.Fails() != i+2 {
			t.Error("Fails")
		}
	}
}
