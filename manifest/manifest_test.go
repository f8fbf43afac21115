package manifest

import (
	"math"
	"reflect"
	"slices"
	"strings"
	"testing"

	"rolodex/api"
	"rolodex/frame"
	"rolodex/simdisk"
)

func disk(t *testing.T, quota int) *simdisk.Disk {
	t.Helper()
	d, e := simdisk.New(quota)
	if e != api.OK {
		t.Fatal(e)
	}
	return d
}

func files(n int, key string) []File {
	var l []File
	for i := range n {
		l = append(l, File{i + 1, i % 7, key, key})
	}
	return l
}

var example = Version{Files: []File{{1, 0, "a", "c"}}, Next: 2, Seq: 9, Log: 1}

func TestP11_1EncodeAndDecode(t *testing.T) {
	key := strings.Repeat("k", api.MaxKey)
	for _, v := range []Version{
		example, {Next: 1}, {Next: 999999, Seq: math.MaxUint64, Log: 999999},
		{Files: []File{{999998, 6, "", key}, {3, 0, key, ""}}, Next: 999999}, {Files: files(1000, "k"), Next: 1001},
	} {
		b, e := Encode(v)
		if e != api.OK {
			t.Fatalf("%v", e)
		}
		if got, e := Decode(b); e != api.OK || !reflect.DeepEqual(got, v) {
			t.Errorf("%v: %v", v, got)
		}
		for i := range min(len(b), 50) {
			if got, e := Decode(b[:i]); e != api.EFORM || !reflect.DeepEqual(got, Version{}) {
				t.Errorf("cut to %d", i)
			}
		}
		if _, e := Decode(append(b, 0)); e != api.EFORM {
			t.Error("a byte behind")
		}
	}
}

func TestP11_1Refused(t *testing.T) {
	key := strings.Repeat("k", api.MaxKey+1)
	d := disk(t, 1<<20)
	for i, v := range []Version{
		{}, {Next: -1}, {Next: 1000000}, {Next: 1, Log: -1}, {Next: 1, Log: 1000000},
		{Files: []File{{Num: 0}}, Next: 2}, {Files: []File{{Num: 2}}, Next: 2}, {Files: []File{{Num: -1}}, Next: 2},
		{Files: []File{{Num: 1}, {Num: 1}}, Next: 2}, {Files: []File{{Num: 1, Level: 7}}, Next: 2}, {Files: []File{{Num: 1, Level: -1}}, Next: 2},
		{Files: []File{{Num: 1, First: key}}, Next: 2}, {Files: []File{{Num: 1, Last: key}}, Next: 2}, {Files: files(1001, ""), Next: 2000},
	} {
		if b, e := Encode(v); b != nil || e != api.EARG {
			t.Errorf("%d: %v", i, e)
		}
		if Save(d, v) != api.EARG || len(d.List()) != 0 {
			t.Errorf("%d is saved", i)
		}
	}
	for _, b := range [][]byte{nil, {0, 0, 0, 0}, {1, 0, 0, 0, 0, 2, 0, 0}, {1, 2, 0, 0, 0, 2, 0, 0}, {1, 1, 7, 0, 0, 2, 0, 0}, {2, 1, 0, 0, 0, 1, 0, 0, 0, 2, 0, 0}} {
		if _, e := Decode(b); e != api.EFORM {
			t.Errorf("%v is read", b)
		}
	}
}

func TestP11_2SaveAndLoad(t *testing.T) {
	d := disk(t, 1<<20)
	if v, e := Load(d); e != api.ENONE || !reflect.DeepEqual(v, Version{}) {
		t.Error("a new disk")
	}
	if d.Create("manifest.tmp") != api.OK || d.Append("manifest.tmp", []byte("old")) != api.OK || Save(d, example) != api.OK {
		t.Error("Save")
	}
	d.Crash(nil)
	if v, e := Load(d); e != api.OK || !reflect.DeepEqual(v, example) {
		t.Error("behind a crash")
	}
	if !slices.Equal(d.List(), []string{"manifest"}) {
		t.Errorf("%q", d.List())
	}
	if e := Save(d, Version{Files: files(1000, strings.Repeat("k", 200)), Next: 2000}); e != api.ELIMIT {
		t.Errorf("a version that no frame takes: %v", e)
	}
	d.Quota(10)
	if Save(d, example) != api.EFULL {
		t.Error("a full disk")
	}
	if v, e := Load(d); e != api.OK || !reflect.DeepEqual(v, example) || len(d.List()) != 1 {
		t.Error("behind a full disk")
	}
}

func TestP11_2CorruptManifests(t *testing.T) {
	b, _ := Encode(example)
	one, _ := frame.Append(nil, b)
	two, _ := frame.Append(one, b)
	wrong, _ := frame.Append(nil, append(b, 0))
	bad := append([]byte(nil), one...)
	bad[9]++
	for i, x := range [][]byte{nil, one[:len(one)-1], append(one[:len(one):len(one)], 0), two, wrong, bad} {
		d := disk(t, 1000)
		d.Create("manifest")
		d.Append("manifest", x)
		if v, e := Load(d); e != api.ECORRUPT || !reflect.DeepEqual(v, Version{}) {
			t.Errorf("%d: %v", i, e)
		}
	}
}

func TestP11_3Name(t *testing.T) {
	for n, want := range map[int]string{7: "t-000007", 0: "t-000000", -5: "t-000000", math.MinInt: "t-000000", 999999: "t-999999", 1000000: "t-000000", 1234567: "t-234567"} {
		if Name(n) != want {
			t.Errorf("Name(%d): %s", n, Name(n))
		}
	}
}

func TestP11_3Clean(t *testing.T) {
	d := disk(t, 1000)
	names := []string{"a", "manifest", "manifest.tmp", "t-000000", "t-000001", "t-000002", "t-00002", "t-00002a", "t-0000003", "w-000001"}
	for _, n := range names {
		d.Create(n)
	}
	d.SyncDir()
	syncs := d.Stat().Syncs
	if Clean(d, example) != api.OK {
		t.Error("Clean")
	}
	want := []string{"a", "manifest", "t-0000003", "t-000001", "t-00002", "t-00002a", "w-000001"}
	if !slices.Equal(d.List(), want) || d.Stat().Syncs != syncs+1 {
		t.Errorf("%q", d.List())
	}
	if Clean(d, example) != api.OK || d.Stat().Syncs != syncs+1 {
		t.Error("nothing to take away")
	}
	d.Crash(nil)
	if !slices.Equal(d.List(), want) {
		t.Error("it is not safe")
	}
}

func TestP11_4Crashes(t *testing.T) {
	other := Version{Files: files(3, "x"), Next: 9, Seq: 10, Log: 2}
	for quota := range 60 {
		for m := range 6 {
			d := disk(t, 1000)
			Save(d, example)
			d.Quota(d.Stat().Bytes + quota)
			e := Save(d, other)
			d.Crash([]int{m, 99, 99})
			v, e2 := Load(d)
			isOld, isNew := reflect.DeepEqual(v, example), reflect.DeepEqual(v, other)
			if e2 != api.OK || !isOld && !isNew || e == api.OK && !isNew || e != api.OK && !isOld {
				t.Errorf("quota %d, %d: %v %v", quota, m, e, v)
			}
		}
	}
	// A crash within a Save: the file was made, but the directory was not yet synced.
	b, _ := Encode(other)
	framed, _ := frame.Append(nil, b)
	for m := range 4 {
		for n := range len(framed) + 1 {
			d := disk(t, 1000)
			Save(d, example)
			d.Create("manifest.tmp")
			d.Append("manifest.tmp", framed[:n])
			if n == len(framed) {
				d.Sync("manifest.tmp")
				d.Rename("manifest.tmp", "manifest")
			}
			d.Crash([]int{m, n, n})
			if v, e := Load(d); e != api.OK || !reflect.DeepEqual(v, example) && !reflect.DeepEqual(v, other) {
				t.Errorf("within: %v", e)
			}
		}
	}
}
