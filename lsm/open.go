package lsm

import (
	"strconv"
	"strings"

	"rolodex/api"
	"rolodex/bin"
	"rolodex/frame"
	"rolodex/manifest"
	"rolodex/mem"
	"rolodex/simdisk"
	"rolodex/wal"
)

// Open finds the store of a disk. All files are looked at ahead of the first change, so that a refused Open leaves the disk as it was.
func Open(d *simdisk.Disk, o Options) (*DB, api.Errno) {
	if o.Mem < leastMem || o.Mem > mostMem || o.Block < 1 || o.Block > mostBlock || o.Fan < leastFan || o.Fan > mostFan {
		return nil, api.EARG
	}
	db := &DB{disk: d, options: o, mem: mem.New(), held: map[uint64]int{}}
	if e := db.loadVersion(); e != api.OK {
		return nil, e
	}
	if e := db.loadTables(); e != api.OK {
		return nil, e
	}
	records, e := db.loadLog()
	if e != api.OK {
		return nil, e
	}
	if e := db.replay(records); e != api.OK {
		return nil, e
	}
	log, _, e := wal.Open(d, logPrefix, logSegment)
	if e != api.OK {
		return nil, e
	}
	db.log = log
	if e := manifest.Clean(d, db.version); e != api.OK {
		return nil, e
	}
	// A Cut behind the last switch of the manifest may not have come to its end.
	if log.First() < db.version.Log {
		if e := log.Cut(db.version.Log); e != api.OK {
			return nil, e
		}
	}
	return db, api.OK
}

func (db *DB) loadVersion() api.Errno {
	v, e := manifest.Load(db.disk)
	if e == api.ENONE {
		v, e = manifest.Version{Next: 1, Log: 1}, api.OK
	}
	db.version = v
	db.seq = v.Seq
	return e
}

func (db *DB) loadTables() api.Errno {
	for _, f := range db.version.Files {
		b, e := db.disk.Read(manifest.Name(f.Num))
		if e != api.OK {
			return api.ECORRUPT
		}
		s := &stored{file: f, laid: b}
		t := s.opened()
		if t == nil {
			return api.ECORRUPT
		}
		if first, last := t.Bounds(); first != f.First || last != f.Last {
			return api.ECORRUPT
		}
		db.tables = append(db.tables, s)
	}
	db.count.Store(int64(len(db.tables)))
	return api.OK
}

// loadLog reads the log's records, and looks whether its segments are as a crash may have left them: package wal would take away what is behind a fault.
func (db *DB) loadLog() ([][]byte, api.Errno) {
	numbers := segments(db.disk)
	if len(numbers) == 0 {
		return nil, db.emptyLog()
	}
	if numbers[0] > db.version.Log || numbers[len(numbers)-1] < db.version.Log {
		return nil, api.ECORRUPT
	}
	var records [][]byte
	for i, n := range numbers {
		if i > 0 && n != numbers[i-1]+1 {
			return nil, api.ECORRUPT
		}
		b, e := db.disk.Read(segmentName(n))
		if e != api.OK {
			return nil, e
		}
		payloads, _, state := frame.Scan(b)
		if state == frame.Corrupt {
			return nil, api.ECORRUPT
		}
		records = append(records, payloads...)
	}
	return records, api.OK
}

// emptyLog asks whether a disk without a log is a new one: the log is the first thing that is made there.
func (db *DB) emptyLog() api.Errno {
	if _, e := manifest.Load(db.disk); e != api.ENONE || len(numbered(db.disk, tablePrefix)) > 0 {
		return api.ECORRUPT
	}
	return api.OK
}

// segments tells the numbers of the log's segments, rising (as their names are).
func segments(d *simdisk.Disk) []int {
	l := numbered(d, logPrefix)
	if len(l) > 0 && l[0] == 0 {
		return l[1:]
	}
	return l
}

const fileDigits = 6

func segmentName(n int) string {
	digits := strconv.Itoa(n)
	return logPrefix + strings.Repeat("0", fileDigits-len(digits)) + digits
}

// numbered tells the numbers of the files whose names are a prefix and six digits, rising.
func numbered(d *simdisk.Disk, prefix string) []int {
	var l []int
	for _, name := range d.List() {
		digits, ok := strings.CutPrefix(name, prefix)
		if !ok || len(digits) != fileDigits || strings.Trim(digits, "0123456789") != "" {
			continue
		}
		if n, err := strconv.Atoi(digits); err == nil {
			l = append(l, n)
		}
	}
	return l
}

// A record of the log: the first change's number; how many changes; of each whether it is gone, its key, its value.
func record(first uint64, l []Op) []byte {
	b := bin.Uint(nil, first)
	b = append(b, bin.Uint(nil, uint64(len(l)))...)
	for _, x := range l {
		if x.Gone {
			b = append(b, 1)
		} else {
			b = append(b, 0)
		}
		b = append(b, bin.Text(nil, x.Key)...)
		b = append(b, bin.Text(nil, x.Value)...)
	}
	return b
}

func readRecord(b []byte) (uint64, []Op, bool) {
	r := bin.Read(b)
	first := r.Uint()
	var l []Op
	for range r.Int(mostOps) {
		gone := r.Int(1) == 1
		x := Op{Key: r.Text(api.MaxKey), Gone: gone}
		x.Value = r.Text(api.MaxValue)
		l = append(l, x)
	}
	if r.End() != api.OK || checked(l) != api.OK {
		return 0, nil, false
	}
	return first, l, true
}

// replay does the log's changes that are in no table.
func (db *DB) replay(records [][]byte) api.Errno {
	for _, b := range records {
		first, l, ok := readRecord(b)
		if !ok {
			return api.ECORRUPT
		}
		last := first + uint64(len(l)) - 1
		switch {
		case first >= 1 && first <= last && last <= db.version.Seq:
		case first == db.seq+1:
			db.apply(l)
		default:
			return api.ECORRUPT
		}
	}
	return api.OK
}
