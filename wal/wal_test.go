package wal

import (
	"fmt"
	"math"
	"math/rand"
	"slices"
	"strings"
	"testing"

	"rolodex/api"
	"rolodex/frame"
	"rolodex/simdisk"
)

func disk(t *testing.T, quota int) *simdisk.Disk {
	t.Helper()
	d, e := simdisk.New(quota)
	if e != api.OK {
		t.Fatal(e)
	}
	return d
}

func texts(l [][]byte) string {
	var s []string
	for _, r := range l {
		s = append(s, string(r))
	}
	return strings.Join(s, ",")
}

func open(t *testing.T, d *simdisk.Disk, most int) (*Log, string) {
	t.Helper()
	l, r, e := Open(d, "w-", most)
	if e != api.OK {
		t.Fatal(e)
	}
	return l, texts(r)
}

func ok(t *testing.T, l ...api.Errno) {
	t.Helper()
	for i, e := range l {
		if e != api.OK {
			t.Errorf("call %d: %v", i, e)
		}
	}
}

func framed(l ...string) []byte {
	var b []byte
	for _, s := range l {
		b, _ = frame.Append(b, []byte(s))
	}
	return b
}

func put(t *testing.T, d *simdisk.Disk, name string, b []byte) {
	t.Helper()
	ok(t, d.Create(name), d.Append(name, b))
}

func TestExample(t *testing.T) {
	d := disk(t, 1000)
	l, r := open(t, d, 64)
	if r != "" || !slices.Equal(d.List(), []string{"w-000001"}) {
		t.Errorf("%q %q", r, d.List())
	}
	ok(t, l.Append([]byte("a")), l.Append([]byte("b")), l.Sync(), l.Append([]byte("c")))
	d.Crash([]int{0, 0})
	if _, r := open(t, d, 64); r != "a,b" {
		t.Errorf("%q", r)
	}
}

func TestP7_1Arguments(t *testing.T) {
	d := disk(t, 1000)
	for _, c := range []struct {
		prefix string
		most   int
	}{{"w-", 63}, {"w-", -1}, {"w-", 1<<20 + 1}, {"W", 64}, {"a b", 64}, {strings.Repeat("a", 59), 64}} {
		if l, r, e := Open(d, c.prefix, c.most); l != nil || r != nil || e != api.EARG {
			t.Errorf("Open(%q, %d): %v", c.prefix, c.most, e)
		}
	}
	if len(d.List()) != 0 {
		t.Error("a refused Open makes files")
	}
	for _, p := range []string{"", strings.Repeat("a", 58), "..", "1", "z90-_."} {
		if l, _, e := Open(d, p, 1<<20); e != api.OK || l.First() != 1 || l.Last() != 1 {
			t.Errorf("Open(%q): %v", p, e)
		}
	}
}

func TestP7_1TheLogOfADisk(t *testing.T) {
	torn := append(framed("c"), 1, 2)
	corrupt := framed("d", "e")
	corrupt[len(corrupt)-1]++
	for _, c := range []struct {
		name    string
		files   map[int][]byte
		records string
		left    []string
		last    int
	}{
		{"clean, goes on", map[int][]byte{7: framed("a"), 8: framed("b")}, "a,b", []string{"w-000007", "w-000008"}, 8},
		{"torn between", map[int][]byte{1: torn, 2: framed("b")}, "c,b", []string{"w-000001", "w-000002"}, 2},
		{"torn at the end", map[int][]byte{1: framed("b"), 2: torn}, "b,c", []string{"w-000001", "w-000002", "w-000003"}, 3},
		{"corrupt", map[int][]byte{1: corrupt, 2: framed("x"), 3: framed("y")}, "d", []string{"w-000001", "w-000002"}, 2},
		{"a gap", map[int][]byte{3: framed("a"), 5: framed("x"), 9: framed("y")}, "a", []string{"w-000003"}, 3},
		{"a full one", map[int][]byte{4: framed(strings.Repeat("z", 56))}, strings.Repeat("z", 56), []string{"w-000004", "w-000005"}, 5},
		{"nearly full", map[int][]byte{4: framed(strings.Repeat("z", 55))}, strings.Repeat("z", 55), []string{"w-000004"}, 4},
		{"no segment", map[int][]byte{0: framed("x")}, "", []string{"w-000000", "w-000001"}, 1},
	} {
		d := disk(t, 1000)
		for n, b := range c.files {
			put(t, d, fmt.Sprintf("w-%06d", n), b)
		}
		ok(t, d.Create("v-000001"), d.Create("w-1"), d.Create("w-00000a"), d.Create("w-0000001"))
		l, r := open(t, d, 64)
		if r != c.records || l.Last() != c.last {
			t.Errorf("%s: %q, last %d", c.name, r, l.Last())
		}
		var left []string
		for _, n := range d.List() {
			if len(n) == 8 && n[:2] == "w-" && !strings.HasSuffix(n, "a") {
				left = append(left, n)
			}
		}
		if !slices.Equal(left, c.left) || len(d.List()) != len(c.left)+4 {
			t.Errorf("%s: files %q", c.name, d.List())
		}
	}
}

func TestP7_1LastNumber(t *testing.T) {
	d := disk(t, 1000)
	put(t, d, "w-999999", framed("a"))
	l, r := open(t, d, 64)
	if r != "a" || l.Last() != 999999 || l.Rotate() != api.ELIMIT || l.Append(make([]byte, 60)) != api.OK || l.Append(nil) != api.ELIMIT {
		t.Error("the last number")
	}
	if l.Records() != 1 {
		t.Error("a refused record counts")
	}
	if l, r, e := Open(d, "w-", 64); l != nil || r != nil || e != api.ELIMIT {
		t.Error("no number is left")
	}
}

func TestP7_2AppendRotateCut(t *testing.T) {
	d := disk(t, 200000)
	l, _ := open(t, d, 64)
	if l.Append(make([]byte, api.MaxFrame+1)) != api.ELIMIT || l.Records() != 0 {
		t.Error("a record that is too long")
	}
	rec := []byte("0123456789")
	for range 8 {
		ok(t, l.Append(rec))
	}
	clear(rec)
	if l.First() != 1 || l.Last() != 2 || l.Records() != 8 {
		t.Errorf("%d %d %d", l.First(), l.Last(), l.Records())
	}
	full, _, _ := Open(disk(t, 1000), "w-", 64)
	ok(t, full.Append(make([]byte, 56)))
	if full.Last() != 1 {
		t.Error("an empty segment is not left")
	}
	ok(t, full.Append(nil))
	if full.Last() != 2 {
		t.Error("a segment of just most bytes is left")
	}
	ok(t, l.Rotate(), l.Append([]byte("x")), l.Rotate())
	if l.Cut(5) != api.EARG || l.Cut(math.MaxInt) != api.EARG {
		t.Error("Cut above the last")
	}
	ok(t, l.Cut(1), l.Cut(0), l.Cut(-3))
	if l.First() != 1 {
		t.Error("a Cut of nothing")
	}
	ok(t, l.Cut(3))
	if l.First() != 3 || l.Last() != 4 || !slices.Equal(d.List(), []string{"w-000003", "w-000004"}) {
		t.Errorf("%q", d.List())
	}
	d.Crash([]int{0})
	if l, r := open(t, d, 64); r != "x" || l.First() != 3 || l.Records() != 0 {
		t.Errorf("%q", r)
	}
}

func TestP7_2FullDisk(t *testing.T) {
	d := disk(t, 20)
	l, _ := open(t, d, 64)
	ok(t, l.Append([]byte("ab")))
	if l.Append([]byte("cde")) != api.EFULL || l.Records() != 1 {
		t.Error("a full disk")
	}
	ok(t, l.Append([]byte("fg")))
	if _, r := open(t, d, 64); r != "ab,fg" {
		t.Errorf("%q", r)
	}
}

// Whatever is picked, the records behind a crash are the first ones of those that were appended, at least all that were synced.
func TestP7_3Crashes(t *testing.T) {
	x := rand.New(rand.NewSource(1))
	for round := range 400 {
		d := disk(t, 3000)
		l, _ := open(t, d, 64)
		var all []string
		safe, gone := 0, 0
		for i := range 60 {
			rec := fmt.Sprint(round, i, strings.Repeat("r", x.Intn(30)))
			last := l.Last()
			switch e := l.Append([]byte(rec)); e {
			case api.OK:
				if l.Last() != last {
					safe = len(all)
				}
				all = append(all, rec)
			case api.EFULL:
				if l.Last() != last {
					safe = len(all)
				}
			default:
				t.Fatal(e)
			}
			switch x.Intn(12) {
			case 0:
				ok(t, l.Sync())
				safe = len(all)
			case 1:
				ok(t, l.Rotate())
				safe = len(all)
			case 2:
				ok(t, l.Rotate(), l.Cut(l.Last()))
				safe, gone = len(all), len(all)
			case 3:
				d.Crash([]int{x.Intn(9), x.Intn(99), x.Intn(99), x.Intn(99), x.Intn(99)})
				var r string
				l, r = open(t, d, 64)
				n := gone
				for n < len(all) && texts(bytesOf(all[gone:n])) != r {
					n++
				}
				if texts(bytesOf(all[gone:n])) != r || n < safe {
					t.Fatalf("round %d: %q of %q, safe %d", round, r, all[gone:], safe)
				}
				all, safe = all[:n], n
			}
		}
	}
}

func bytesOf(l []string) [][]byte {
	var b [][]byte
	for _, s := range l {
		b = append(b, []byte(s))
	}
	return b
}
