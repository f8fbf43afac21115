package lsm

import (
	"fmt"
	"maps"
	"math"
	"math/rand"
	"slices"
	"strings"
	"testing"

	"rolodex/api"
	"rolodex/manifest"
	"rolodex/simdisk"
)

var small = Options{64, 2, 2}

func disk(t *testing.T, quota int) *simdisk.Disk {
	t.Helper()
	d, e := simdisk.New(quota)
	if e != api.OK {
		t.Fatal(e)
	}
	return d
}

func open(t *testing.T, d *simdisk.Disk, o Options) *DB {
	t.Helper()
	db, e := Open(d, o)
	if e != api.OK {
		t.Fatal(e)
	}
	return db
}

func write(t *testing.T, db *DB, sync bool, l ...Op) {
	t.Helper()
	if e := db.Write(l, sync); e != api.OK {
		t.Fatal(e)
	}
}

func set(key, value string) Op { return Op{Key: key, Value: value} }

func gone(key string) Op { return Op{Key: key, Gone: true} }

func told(l []Op) string {
	var s []string
	for _, x := range l {
		s = append(s, x.Key+"="+x.Value)
		if x.Gone {
			s = append(s, "GONE")
		}
	}
	return strings.Join(s, " ")
}

func TestExample(t *testing.T) {
	for _, picks := range [][]int{nil, {0, 13}, {0, 99}, {0, 12, 5}} {
		d := disk(t, 10000)
		db := open(t, d, small)
		write(t, db, false, set("a", "1"), set("b", "2"))
		if v, ok := db.Get("a"); v != "1" || !ok {
			t.Error("Get")
		}
		snap := db.Snap()
		write(t, db, false, gone("a"))
		if v, ok := db.Get("a"); v != "" || ok {
			t.Error("a is gone")
		}
		if v, ok, e := db.GetAt("a", snap); v != "1" || !ok || e != api.OK {
			t.Error("GetAt")
		}
		if s := told(db.Scan("", "", -1)); s != "b=2" {
			t.Error(s)
		}
		d.Crash(picks)
		if s := told(open(t, d, small).Scan("", "", -1)); s != "" && s != "a=1 b=2" && s != "b=2" {
			t.Errorf("behind the crash: %s", s)
		}
	}
}

func TestP12_1Options(t *testing.T) {
	d := disk(t, 1000)
	for _, o := range []Options{{63, 1, 2}, {65537, 1, 2}, {64, 0, 2}, {64, 1001, 2}, {64, 1, 1}, {64, 1, 17}, {-1, -1, -1}} {
		if db, e := Open(d, o); db != nil || e != api.EARG || len(d.List()) != 0 {
			t.Errorf("%v: %v", o, e)
		}
	}
	open(t, d, Options{65536, 1000, 16})
	open(t, d, Options{64, 1, 2})
}

func TestP12_1Write(t *testing.T) {
	db := open(t, disk(t, 1<<20), Options{65536, 10, 4})
	key, value := strings.Repeat("k", api.MaxKey), strings.Repeat("v", api.MaxValue)
	many := slices.Repeat([]Op{set("a", "")}, 1001)
	for i, l := range [][]Op{nil, {}, many, {set("", "x")}, {set(key+"k", "")}, {set("a", value+"v")}, {{"a", "x", true}}, {set("a", ""), set("", "")}} {
		if db.Write(l, true) != api.EARG {
			t.Errorf("%d is taken", i)
		}
	}
	big := slices.Repeat([]Op{set("abcd", value[:4089])}, 14)
	rest := 60000 - 14*4093
	if db.Write(append(big, set("r", value[:rest])), false) != api.ELIMIT || db.Seq() != 0 {
		t.Error("60001 bytes")
	}
	write(t, db, false, append(big, set("r", value[:rest-1]))...)
	write(t, db, false, many[:1000]...)
	write(t, db, false, set(key, ""), set("a", "1"), gone("a"), set("b", "1"), set("b", "2"))
	if v, ok := db.Get("b"); v != "2" || !ok || db.Seq() != 15+1000+5 {
		t.Error("changes are done in order")
	}
	if _, ok := db.Get("a"); ok {
		t.Error("a is gone")
	}
}

func TestP12_1FullDisk(t *testing.T) {
	d := disk(t, 100)
	db := open(t, d, Options{65536, 10, 4})
	write(t, db, true, set("a", "1"))
	if db.Write([]Op{set("b", strings.Repeat("x", 100))}, false) != api.EFULL || !db.ReadOnly() || db.Seq() != 1 {
		t.Error("a full disk")
	}
	for range 2 {
		if db.Write([]Op{set("c", "1")}, false) != api.EREADONLY || db.Flush() != api.EREADONLY || db.Compact() != api.EREADONLY {
			t.Error("it is read only")
		}
	}
	if db.Write(nil, false) != api.EARG {
		t.Error("EARG is named first")
	}
	if told(db.Scan("", "", -1)) != "a=1" {
		t.Error("nothing is changed")
	}
	d.Quota(0)
	db = open(t, d, small)
	if db.ReadOnly() || told(db.Scan("", "", -1)) != "a=1" {
		t.Error("opened anew, without room")
	}
	d.Quota(1000)
	write(t, db, true, set("c", "1"))
}

func TestP12_1Corrupt(t *testing.T) {
	fill := func() *simdisk.Disk {
		d := disk(t, 100000)
		d.Create("other")
		d.Append("other", []byte("x"))
		db := open(t, d, small)
		for i := range 30 {
			write(t, db, true, set(fmt.Sprint("key", i), "some value"))
		}
		write(t, db, true, set("last", "1"))
		write(t, db, true, set("last", "2"))
		return d
	}
	clean := fill()
	for _, name := range clean.List() {
		b, _ := clean.Read(name)
		for _, i := range []int{8, len(b) / 2, len(b) - 1} {
			// A frame's length that is changed looks like a frame that a crash has torn.
			isLength := name[0] == 'w' && i == len(b)/2
			if name == "other" || i >= len(b) || isLength {
				continue
			}
			d := fill()
			c := slices.Clone(b)
			c[i] ^= 16
			d.Remove(name)
			d.Create(name)
			d.Append(name, c)
			before := d.List()
			if db, e := Open(d, small); db != nil || e != api.ECORRUPT || !slices.Equal(before, d.List()) {
				t.Errorf("%s changed at %d: %v", name, i, e)
			}
		}
		d := fill()
		d.Remove(name)
		_, e := Open(d, small)
		if want := name != "other"; want != (e == api.ECORRUPT) {
			t.Errorf("without %s: %v", name, e)
		}
	}
	d := fill()
	for _, name := range d.List() {
		if name != "other" && name[0] != 't' {
			d.Remove(name)
		}
	}
	if _, e := Open(d, small); e != api.ECORRUPT {
		t.Error("tables alone")
	}
}

func TestP12_2Scan(t *testing.T) {
	d := disk(t, 100000)
	db := open(t, d, small)
	for i := range 40 {
		write(t, db, false, set(fmt.Sprintf("k%02d", i*7%40), fmt.Sprint(i)))
	}
	write(t, db, false, gone("k01"), set("k02", ""))
	for _, c := range []struct {
		from, to string
		most     int
		want     string
	}{
		{"", "k03", -1, "k00=0 k02="}, {"k37", "", -1, "k37=11 k38=34 k39=17"}, {"k37", "", 2, "k37=11 k38=34"}, {"k37", "", 0, ""},
		{"k02", "k02", -1, ""}, {"k03", "k02", -1, ""}, {"k370", "k39", math.MinInt, "k38=34"}, {"z", "", -1, ""}, {"k39", "z", 99, "k39=17"},
	} {
		if s := told(db.Scan(c.from, c.to, c.most)); s != c.want {
			t.Errorf("Scan(%q, %q, %d): %s", c.from, c.to, c.most, s)
		}
	}
	if v, ok := db.Get("k02"); v != "" || !ok {
		t.Error("an empty value")
	}
	if _, ok := db.Get(""); ok {
		t.Error("an empty key")
	}
}

func TestP12_3Snaps(t *testing.T) {
	d := disk(t, 1<<20)
	db := open(t, d, small)
	if db.Release(0) != api.ENONE {
		t.Error("no moment is held")
	}
	zero := db.Snap()
	states := map[uint64]string{zero: ""}
	for i := range 60 {
		write(t, db, false, set(fmt.Sprint(i%5), fmt.Sprint(i, strings.Repeat("v", i%9))), gone(fmt.Sprint(i%7)))
		if i%6 == 0 {
			states[db.Snap()] = told(db.Scan("", "", -1))
		}
	}
	twice := db.Snap()
	if db.Snap() != twice || db.Release(twice) != api.OK {
		t.Error("the same moment, twice")
	}
	states[twice] = told(db.Scan("", "", -1))
	if db.Compact() != api.OK {
		t.Error("Compact")
	}
	for snap, want := range states {
		l, e := db.ScanAt("", "", -1, snap)
		if told(l) != want || e != api.OK {
			t.Errorf("at %d: %s, want %s", snap, told(l), want)
		}
		for _, x := range l {
			if v, ok, e := db.GetAt(x.Key, snap); v != x.Value || !ok || e != api.OK {
				t.Error("GetAt")
			}
		}
		if db.Release(snap) != api.OK || db.Release(snap) != api.ENONE {
			t.Error("Release")
		}
		if _, e := db.ScanAt("", "", -1, snap); e != api.ENONE {
			t.Error("a moment that is not held")
		}
		if v, ok, e := db.GetAt("1", snap); v != "" || ok || e != api.ENONE {
			t.Error("a moment that is not held")
		}
	}
	snap := db.Snap()
	if open(t, d, small).Release(snap) != api.ENONE {
		t.Error("moments are not held behind an Open")
	}
}

func TestP12_4FlushAndCompact(t *testing.T) {
	d := disk(t, 1<<20)
	db := open(t, d, Options{65536, 4, 2})
	if db.Flush() != api.OK || db.Compact() != api.OK || db.Stat() != (Stat{}) {
		t.Error("nothing to flush")
	}
	write(t, db, false, set("a", "1"), set("b", "1"))
	if db.Flush() != api.OK || db.Stat() != (Stat{Puts: 2, Flushes: 1, Tables: 1}) {
		t.Errorf("%v", db.Stat())
	}
	d.Crash(nil)
	db = open(t, d, Options{65536, 4, 2})
	if told(db.Scan("", "", -1)) != "a=1 b=1" || db.Seq() != 2 || db.Stat() != (Stat{Tables: 1}) {
		t.Error("what was flushed is safe")
	}
	write(t, db, false, gone("a"), set("b", "2"))
	if db.Compact() != api.OK || db.Stat() != (Stat{2, 1, 1, 1}) || told(db.Scan("", "", -1)) != "b=2" {
		t.Errorf("%v", db.Stat())
	}
	d.Crash(nil)
	db = open(t, d, small)
	if told(db.Scan("", "", -1)) != "b=2" || db.Seq() != 4 {
		t.Error("what was compacted is safe")
	}
	write(t, db, false, gone("b"))
	if db.Compact() != api.OK || db.Stat().Tables != 0 || told(db.Scan("", "", -1)) != "" {
		t.Error("a store of nothing has no tables")
	}
	write(t, db, false, set("c", "1"))
	if db.Seq() != 6 {
		t.Error("Seq goes on")
	}
}

func TestP12_4NoRoom(t *testing.T) {
	for quota := range 400 {
		d := disk(t, 100000)
		db := open(t, d, Options{65536, 4, 2})
		for i := range 5 {
			write(t, db, true, set(fmt.Sprint("key", i), "value"))
			if i < 2 && db.Flush() != api.OK {
				t.Fatal("Flush")
			}
		}
		write(t, db, true, gone("key0"))
		want := told(db.Scan("", "", -1))
		d.Quota(d.Stat().Bytes + quota)
		e := db.Compact()
		if e != api.OK && e != api.EFULL || db.ReadOnly() != (e == api.EFULL) {
			t.Errorf("room %d: %v", quota, e)
		}
		if quota == 0 && e != api.EFULL || quota == 399 && e != api.OK {
			t.Errorf("room %d: %v", quota, e)
		}
		for range 2 {
			if s := told(db.Scan("", "", -1)); s != want || db.Seq() != 6 {
				t.Errorf("room %d: %s", quota, s)
			}
			d.Crash([]int{quota})
			db = open(t, d, small)
		}
	}
}

func TestP12_5ByItself(t *testing.T) {
	d := disk(t, 1<<20)
	db := open(t, d, small)
	write(t, db, false, set("a", strings.Repeat("v", 47)))
	if db.Stat().Flushes != 0 {
		t.Error("64 bytes are not more than 64")
	}
	write(t, db, false, set("b", ""))
	if db.Stat().Flushes != 1 || db.Stat().Tables != 1 {
		t.Error("more than Mem bytes are flushed")
	}
	for i := range 300 {
		write(t, db, false, set(fmt.Sprint(i), strings.Repeat("v", 50)))
		v, _ := manifest.Load(d)
		var on [7]int
		for _, f := range v.Files {
			on[f.Level]++
		}
		for level, n := range on {
			if n > 2 {
				t.Fatalf("%d tables on level %d", n, level)
			}
		}
		if len(v.Files) != db.Stat().Tables {
			t.Error("Tables")
		}
	}
	if db.Stat().Merges == 0 || db.Stat().Flushes != 301 || len(db.Scan("", "", -1)) != 302 {
		t.Errorf("%v", db.Stat())
	}
	d.Quota(d.Stat().Bytes + 100)
	write(t, db, false, set("z", strings.Repeat("v", 60)))
	if !db.ReadOnly() || db.Write([]Op{set("a", "")}, false) != api.EREADONLY {
		t.Error("no room for a table")
	}
	if v, ok := db.Get("z"); len(v) != 60 || !ok {
		t.Error("the Write is done all the same")
	}
}

// model is what a store must tell behind each of its changes.
type model struct {
	states map[uint64]string
	ends   []uint64
	now    map[string]string
}

func (m *model) write(l []Op, seq uint64) {
	for _, x := range l {
		if x.Gone {
			delete(m.now, x.Key)
		} else {
			m.now[x.Key] = x.Value
		}
	}
	var all []Op
	for _, k := range slices.Sorted(maps.Keys(m.now)) {
		all = append(all, set(k, m.now[k]))
	}
	m.states[seq] = told(all)
}

func (m *model) back(l []Op) {
	m.now = map[string]string{}
	for _, x := range l {
		m.now[x.Key] = x.Value
	}
}

func TestP12_6Crashes(t *testing.T) {
	x := rand.New(rand.NewSource(4))
	for round := range 300 {
		d := disk(t, 1500+x.Intn(4000))
		o := Options{64 + x.Intn(300), 1 + x.Intn(5), 2 + x.Intn(3)}
		db := open(t, d, o)
		m := &model{states: map[uint64]string{0: ""}, now: map[string]string{}}
		safe := uint64(0)
		for range 80 {
			var l []Op
			for range 1 + x.Intn(4) {
				op := Op{Key: fmt.Sprint("k", x.Intn(12))}
				if op.Gone = x.Intn(3) == 0; !op.Gone {
					op.Value = fmt.Sprint(x.Intn(1000)) + strings.Repeat("v", x.Intn(30))
				}
				l = append(l, op)
			}
			sync := x.Intn(4) == 0
			if e := db.Write(l, sync); e == api.OK {
				m.write(l, db.Seq())
				if sync {
					safe = db.Seq()
				}
			} else if e != api.EFULL && e != api.EREADONLY {
				t.Fatal(e)
			}
			switch x.Intn(10) {
			case 0:
				if db.Flush() == api.OK {
					safe = db.Seq()
				}
			case 1:
				if db.Compact() == api.OK {
					safe = db.Seq()
				}
			case 2:
				for range 1 + x.Intn(2) {
					d.Crash([]int{x.Intn(9), x.Intn(50), x.Intn(50), x.Intn(50), x.Intn(50), x.Intn(50)})
				}
				db = open(t, d, o)
				m.back(db.Scan("", "", -1))
			}
			want, ok := m.states[db.Seq()]
			if got := told(db.Scan("", "", -1)); !ok || got != want || db.Seq() < safe {
				t.Fatalf("round %d: at %d (safe %d): %s, want %s", round, db.Seq(), safe, got, want)
			}
		}
	}
}

func TestManyItems(t *testing.T) {
	d := disk(t, 1<<26)
	db := open(t, d, Options{65536, 16, 4})
	for i := range 25 {
		var l []Op
		for k := range 1000 {
			l = append(l, set(fmt.Sprintf("key%06d", i*1000+k), "v"))
		}
		write(t, db, false, l...)
	}
	if db.Compact() != api.OK || db.Stat().Tables != 3 || len(db.Scan("", "", -1)) != 25000 {
		t.Errorf("%v", db.Stat())
	}
	if db = open(t, d, small); db.Stat().Tables != 3 || len(db.Scan("key024990", "", -1)) != 10 {
		t.Error("opened anew")
	}
}

// Whatever is flushed, merged and held, each moment shows what it showed.
func TestP12_3And4AgainstAModel(t *testing.T) {
	x := rand.New(rand.NewSource(21))
	for round := range 60 {
		d := disk(t, 1<<24)
		db := open(t, d, Options{64 + x.Intn(2000), 1 + x.Intn(5), 2 + x.Intn(3)})
		now := map[string]string{}
		held := map[uint64]map[string]string{}
		for range 150 {
			key := fmt.Sprintf("k%02d", x.Intn(30))
			switch x.Intn(9) {
			case 0:
				held[db.Snap()] = maps.Clone(now)
			case 1:
				for snap := range held {
					if x.Intn(2) == 0 {
						for db.Release(snap) == api.OK {
						}
						delete(held, snap)
					}
				}
			case 2:
				db.Flush()
			case 3:
				if x.Intn(3) == 0 {
					db.Compact()
				}
			case 4:
				write(t, db, false, gone(key))
				delete(now, key)
			default:
				for range 1 + x.Intn(60) {
					now[key] = fmt.Sprint(x.Intn(1000))
					write(t, db, false, set(key, now[key]))
				}
			}
			check := func(m map[string]string, at uint64) {
				from, to, most := fmt.Sprintf("k%02d", x.Intn(30)), fmt.Sprintf("k%02d", x.Intn(35)), x.Intn(12)-1
				if x.Intn(3) == 0 {
					to = ""
				}
				var want []Op
				for _, k := range slices.Sorted(maps.Keys(m)) {
					if k >= from && (to == "" || k < to) && (most < 0 || len(want) < most) {
						want = append(want, set(k, m[k]))
					}
				}
				got := db.Scan(from, to, most)
				if at != math.MaxUint64 {
					got, _ = db.ScanAt(from, to, most, at)
				}
				if told(got) != told(want) {
					t.Fatalf("round %d: Scan(%q, %q, %d) at %d: %s, want %s", round, from, to, most, at, told(got), told(want))
				}
			}
			check(now, math.MaxUint64)
			for snap, m := range held {
				check(m, snap)
				if v, ok, e := db.GetAt(key, snap); v != m[key] || ok != (m[key] != "") || e != api.OK {
					t.Fatalf("round %d: GetAt", round)
				}
			}
		}
	}
}

// copied is a disk with the same files, all of them safe.
func copied(t *testing.T, d *simdisk.Disk) *simdisk.Disk {
	t.Helper()
	c := disk(t, 1<<20)
	for _, name := range d.List() {
		b, _ := d.Read(name)
		put(c, name, b)
	}
	return c
}

func put(d *simdisk.Disk, name string, b []byte) {
	d.Create(name)
	d.Append(name, b)
	d.Sync(name)
	d.SyncDir()
}

// A crash within a flush, behind the switch of the manifest: the segments that the new version does not need are there still.
func TestP12_6CrashWithinAFlush(t *testing.T) {
	for n := 1; n < 5; n++ {
		d := disk(t, 1<<20)
		db := open(t, d, Options{65536, 4, 2})
		for i := range n {
			write(t, db, true, set(fmt.Sprint("k", i), "v"), gone("x"))
		}
		write(t, db, true, set("one", "1"))
		before := copied(t, d)
		want, seq := told(db.Scan("", "", -1)), db.Seq()
		if db.Flush() != api.OK {
			t.Fatal("Flush")
		}
		for _, alsoNew := range []bool{false, true} {
			if alsoNew {
				write(t, db, true, set("new", "1"))
				want, seq = told(db.Scan("", "", -1)), db.Seq()
			}
			c := copied(t, d)
			old, _ := before.Read("w-000001")
			put(c, "w-000001", old)
			for range 2 {
				again := open(t, c, small)
				if told(again.Scan("", "", -1)) != want || again.Seq() != seq {
					t.Errorf("%s, want %s", told(again.Scan("", "", -1)), want)
				}
				if slices.Contains(c.List(), "w-000001") {
					t.Error("the old segment is left")
				}
			}
		}
		// Ahead of the switch: the new table and segment are there, and make no difference.
		table, _ := d.Read("t-000001")
		put(before, "t-000001", table)
		put(before, "w-000002", nil)
		if again := open(t, before, small); again.Seq() != uint64(2*n+1) || slices.Contains(before.List(), "t-000001") {
			t.Error("a table that no manifest tells of")
		}
	}
}

func TestP12_1OtherFiles(t *testing.T) {
	d := disk(t, 1<<20)
	names := []string{"a", "manifesto", "table", "t", "w", "x-000001", "xx000001"}
	for _, name := range append(names, "w-", "w-1", "w-00000a", "w-0000001", "t-", "t-1", "t-00000a") {
		put(d, name, []byte("left alone"))
	}
	db := open(t, d, small)
	value := strings.Repeat("v", api.MaxValue)
	for i := range 30 {
		write(t, db, true, set(fmt.Sprint("k", i), value))
	}
	db = open(t, d, small)
	if db.Compact() != api.OK || len(db.Scan("", "", -1)) != 30 {
		t.Error("the store")
	}
	for _, name := range names {
		if b, e := d.Read(name); e != api.OK || string(b) != "left alone" {
			t.Errorf("%s was touched", name)
		}
	}
}
