package lsm

import (
	"maps"
	"slices"
	"sync"

	"rolodex/api"
	"rolodex/manifest"
	"rolodex/mem"
	"rolodex/merge"
	"rolodex/table"
)

const (
	mostItems = 10000
	lastLevel = 6
)

// stored is a table of the disk; its bytes are read once, when it is first looked at.
type stored struct {
	file  manifest.File
	laid  []byte
	once  sync.Once
	table *table.Table
}

// opened is the table: nil, if its bytes are none.
func (s *stored) opened() *table.Table {
	s.once.Do(func() {
		s.table, _ = table.Open(s.laid)
		s.laid = nil
	})
	return s.table
}

// settle puts what is in memory into a table, and merges the levels that have too many.
func (db *DB) settle() api.Errno {
	if e := db.flush(); e != api.OK {
		return db.fail(e)
	}
	for level := range lastLevel + 1 {
		if !db.tooMany(level) {
			continue
		}
		if e := db.mergeLevel(level); e != api.OK {
			return db.fail(e)
		}
	}
	return api.OK
}

// tooMany asks whether a level is to be merged. The last one has none behind it: there it must come to fewer tables.
func (db *DB) tooMany(level int) bool {
	tables, items := 0, 0
	for _, s := range db.tables {
		if s.file.Level == level {
			tables++
			items += s.opened().Len()
		}
	}
	least := (items + mostItems - 1) / mostItems
	return tables > db.options.Fan && (level < lastLevel || least < tables)
}

// flush makes a table of what is in memory. The log goes on in a new segment, so that the old ones can be cut once the manifest tells of the table.
func (db *DB) flush() api.Errno {
	if db.mem.Len() == 0 {
		return api.OK
	}
	if e := db.log.Rotate(); e != api.OK {
		return e
	}
	v := db.version
	v.Seq, v.Log = db.seq, db.log.Last()
	made, e := db.replace(v, db.tables, db.mem.All(), 0)
	if e != api.OK {
		return e
	}
	db.flushes.Add(int64(made))
	db.mem = mem.New()
	return db.log.Cut(db.version.Log)
}

// mergeLevel makes all tables of a level into new ones on the next level.
func (db *DB) mergeLevel(level int) api.Errno {
	var old, others []*stored
	bottom := true
	for _, s := range db.tables {
		if s.file.Level == level {
			old = append(old, s)
			continue
		}
		others = append(others, s)
		bottom = bottom && s.file.Level < level
	}
	return db.merge(old, others, min(level+1, lastLevel), bottom)
}

func (db *DB) mergeAll() api.Errno {
	if len(db.tables) == 0 {
		return api.OK
	}
	return db.merge(db.tables, nil, lastLevel, true)
}

func (db *DB) merge(old, others []*stored, level int, bottom bool) api.Errno {
	var lists [][]api.Item
	for _, s := range old {
		lists = append(lists, slices.Collect(s.opened().From("")))
	}
	all, e := merge.Merge(lists)
	if e != api.OK {
		return e
	}
	keep := slices.Sorted(maps.Keys(db.held))
	made, e := db.replace(db.version, others, merge.Thin(all, keep, bottom), level)
	if e != api.OK {
		return e
	}
	db.merges.Add(int64(made))
	return manifest.Clean(db.disk, db.version)
}

// replace makes tables of items on a level, and switches to a version that has them and others. It tells how many it made; if it can't, all stays as it was.
func (db *DB) replace(v manifest.Version, others []*stored, items []api.Item, level int) (int, api.Errno) {
	tables := slices.Clone(others)
	first := v.Next
	for l := range slices.Chunk(items, mostItems) {
		s, e := db.build(l, v.Next, level)
		if e != api.OK {
			db.forget(first, v.Next)
			return 0, e
		}
		v.Next++
		tables = append(tables, s)
	}
	v.Files = nil
	for _, s := range tables {
		v.Files = append(v.Files, s.file)
	}
	if e := manifest.Save(db.disk, v); e != api.OK {
		db.forget(first, v.Next)
		return 0, e
	}
	db.version, db.tables = v, tables
	db.count.Store(int64(len(tables)))
	return v.Next - first, api.OK
}

// build writes a table to the disk.
func (db *DB) build(l []api.Item, number, level int) (*stored, api.Errno) {
	b, e := table.Build(l, db.options.Block)
	if e != api.OK {
		return nil, e
	}
	name := manifest.Name(number)
	if e := db.disk.Create(name); e != api.OK {
		return nil, e
	}
	if e := db.disk.Append(name, b); e != api.OK {
		db.disk.Remove(name)
		return nil, e
	}
	if e := db.disk.Sync(name); e != api.OK {
		return nil, e
	}
	file := manifest.File{Num: number, Level: level, First: l[0].Key, Last: l[len(l)-1].Key}
	return &stored{file: file, laid: b}, api.OK
}

// forget takes away tables that no manifest tells of.
func (db *DB) forget(first, next int) {
	for n := first; n < next; n++ {
		db.disk.Remove(manifest.Name(n))
	}
}
