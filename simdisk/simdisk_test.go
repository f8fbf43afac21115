package simdisk

import (
	"math"
	"slices"
	"strings"
	"testing"

	"rolodex/api"
)

func disk(t *testing.T, quota int) *Disk {
	t.Helper()
	d, e := New(quota)
	if e != api.OK {
		t.Fatal(e)
	}
	return d
}

func want(t *testing.T, d *Disk, files ...string) {
	t.Helper()
	var got []string
	for _, n := range d.List() {
		b, e := d.Read(n)
		if e != api.OK {
			t.Errorf("Read(%s): %v", n, e)
		}
		got = append(got, n+"="+string(b))
	}
	if !slices.Equal(got, files) {
		t.Errorf("there is %q, want %q", got, files)
	}
}

func ok(t *testing.T, l ...api.Errno) {
	t.Helper()
	for i, e := range l {
		if e != api.OK {
			t.Errorf("call %d: %v", i, e)
		}
	}
}

func TestExample(t *testing.T) {
	d := disk(t, 10)
	ok(t, d.Create("a"), d.Append("a", []byte("xyz")), d.Sync("a"), d.SyncDir(), d.Append("a", []byte("12")), d.Create("b"))
	d.Crash([]int{0, 1})
	want(t, d, "a=xyz1")
	if e := d.Append("a", make([]byte, 7)); e != api.EFULL {
		t.Error(e)
	}
	if e := d.Create("A"); e != api.EARG {
		t.Error(e)
	}
	want(t, d, "a=xyz1")
}

func TestP5_1New(t *testing.T) {
	for _, q := range []int{-1, math.MinInt} {
		if d, e := New(q); d != nil || e != api.EARG {
			t.Errorf("New(%d)", q)
		}
	}
	d := disk(t, 0)
	ok(t, d.Create("a"), d.Append("a", nil))
	if d.Append("a", []byte{1}) != api.EFULL {
		t.Error("a byte on a disk without room")
	}
}

func TestP5_1Names(t *testing.T) {
	d := disk(t, 100)
	long := strings.Repeat("a", api.MaxName)
	for _, n := range []string{"a", "z9", ".", "..", "-_.", "0", long} {
		ok(t, d.Create(n))
		if d.Create(n) != api.EEXIST {
			t.Errorf("%q twice", n)
		}
	}
	for _, n := range []string{"", "A", "a b", "ä", "a/b", long + "a", "`", "{", ":", ","} {
		if d.Create(n) != api.EARG || d.Rename("a", n) != api.EARG || d.Rename("none", n) != api.ENONE {
			t.Errorf("%q may be", n)
		}
	}
}

func TestP5_1Files(t *testing.T) {
	d := disk(t, 6)
	if d.Append("a", nil) != api.ENONE || d.Sync("a") != api.ENONE || d.Remove("a") != api.ENONE || d.Rename("a", "b") != api.ENONE {
		t.Error("of a name that is none")
	}
	if b, e := d.Read("a"); b != nil || e != api.ENONE {
		t.Error("Read of a name that is none")
	}
	in := []byte("abc")
	ok(t, d.Create("b"), d.Create("a"), d.Append("a", in), d.Append("b", in))
	clear(in)
	if d.Append("a", []byte{1}) != api.EFULL {
		t.Error("more than the quota")
	}
	want(t, d, "a=abc", "b=abc")
	got, _ := d.Read("a")
	clear(got)
	ok(t, d.Rename("a", "b"), d.Append("b", []byte("123")))
	want(t, d, "b=abc123")
	ok(t, d.Rename("b", "b"))
	want(t, d, "b=abc123")
	ok(t, d.Remove("b"))
	want(t, d)
}

func TestP5_2CrashOfTheDirectory(t *testing.T) {
	for m, files := range [][]string{
		{"a=A", "b=B"}, {"a=A", "b=B", "c="}, {"b=A", "c="}, {"b=A", "c="}, {"c="},
	} {
		d := disk(t, 100)
		ok(t, d.Create("a"), d.Append("a", []byte("A")), d.Sync("a"), d.Create("b"), d.Append("b", []byte("B")), d.Sync("b"), d.SyncDir())
		ok(t, d.Create("c"), d.Rename("a", "b"), d.Rename("b", "b"), d.Remove("b"))
		d.Crash([]int{m + 5})
		want(t, d, files...)
		d.Crash([]int{1, 9, 9})
		want(t, d, files...)
	}
}

func TestP5_2CrashOfBytes(t *testing.T) {
	for _, c := range []struct {
		picks []int
		files []string
	}{
		{nil, []string{"a=1", "b=", "c="}},
		{[]int{-7, -1, math.MinInt, -2}, []string{"a=1", "b=", "c="}},
		{[]int{0, 1, 5, 2}, []string{"a=12", "b=", "c=xy"}},
		{[]int{1, 2, 0, 7}, []string{"a=123", "b=", "c=xyz"}},
		{[]int{0, 3, 0, math.MaxInt}, []string{"a=1", "b=", "c=" + "xyz"[:math.MaxInt%4]}},
	} {
		d := disk(t, 100)
		ok(t, d.Create("c"), d.Create("b"), d.Create("a"), d.Append("a", []byte("1")), d.Sync("a"), d.SyncDir())
		ok(t, d.Append("a", []byte("23")), d.Append("c", []byte("xyz")))
		d.Crash(c.picks)
		want(t, d, c.files...)
		d.Crash(nil)
		want(t, d, c.files...)
	}
}

func TestP5_2QuotaAndStat(t *testing.T) {
	d := disk(t, 5)
	ok(t, d.Create("a"), d.Append("a", []byte("abc")))
	d.Quota(3)
	if d.Append("a", []byte("d")) != api.EFULL {
		t.Error("more than the new quota")
	}
	d.Quota(-4)
	if d.Append("a", nil) != api.EFULL || d.Sync("x") != api.ENONE {
		t.Error("refused calls")
	}
	d.Quota(4)
	ok(t, d.Append("a", []byte("d")), d.Sync("a"), d.SyncDir())
	if s := d.Stat(); s != (Stat{1, 4, 2, 2}) {
		t.Errorf("%v", s)
	}
	ok(t, d.Remove("a"))
	if s := d.Stat(); s != (Stat{0, 0, 2, 2}) {
		t.Errorf("%v", s)
	}
	d.Quota(0)
	d.Crash(nil)
	if s := d.Stat(); s != (Stat{1, 4, 2, 2}) {
		t.Errorf("behind the crash: %v", s)
	}
}

func TestP5_3SafeStays(t *testing.T) {
	for p := range 200 {
		d := disk(t, 100)
		ok(t, d.Create("a"), d.Append("a", []byte("safe")), d.Sync("a"), d.SyncDir(), d.Append("a", []byte("not")), d.Create("b"), d.Append("b", []byte("x")), d.Rename("b", "c"))
		d.Crash([]int{p % 3, p % 7, p % 5})
		if b, e := d.Read("a"); e != api.OK || !strings.HasPrefix("safenot", string(b)) || len(b) < 4 {
			t.Errorf("%d: %q %v", p, b, e)
		}
	}
}
