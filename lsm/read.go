package lsm

import (
	"iter"

	"rolodex/api"
	"rolodex/merge"
)

// Get tells a key's value.
func (db *DB) Get(key string) (string, bool) { return db.get(key, always) }

// GetAt tells a key's value at a moment.
func (db *DB) GetAt(key string, snap uint64) (string, bool, api.Errno) {
	if db.held[snap] == 0 {
		return "", false, api.ENONE
	}
	value, ok := db.get(key, snap)
	return value, ok, api.OK
}

// get finds the latest item of a key: the one with the greatest number, wherever it is.
func (db *DB) get(key string, seq uint64) (string, bool) {
	best, found := db.mem.Get(key, seq)
	for _, s := range db.tables {
		x, ok := s.opened().Get(key, seq)
		if ok && (!found || x.Seq > best.Seq) {
			best, found = x, true
		}
	}
	if !found || best.Gone {
		return "", false
	}
	return best.Value, true
}

// Scan tells keys and values.
func (db *DB) Scan(from, to string, most int) []Op { return db.scan(from, to, most, always) }

// ScanAt tells keys and values at a moment.
func (db *DB) ScanAt(from, to string, most int, snap uint64) ([]Op, api.Errno) {
	if db.held[snap] == 0 {
		return nil, api.ENONE
	}
	return db.scan(from, to, most, snap), api.OK
}

func (db *DB) scan(from, to string, most int, seq uint64) []Op {
	if most == 0 {
		return nil
	}
	lists := [][]api.Item{below(db.mem.From(from), to)}
	for _, s := range db.tables {
		lists = append(lists, below(s.opened().From(from), to))
	}
	all, _ := merge.Merge(lists)
	var out []Op
	for _, x := range merge.Seen(all, seq) {
		out = append(out, Op{Key: x.Key, Value: x.Value})
		if len(out) == most {
			break
		}
	}
	return out
}

// below takes the items whose keys are below to; all, if to is empty.
func below(items iter.Seq[api.Item], to string) []api.Item {
	var l []api.Item
	for x := range items {
		if to != "" && x.Key >= to {
			break
		}
		l = append(l, x)
	}
	return l
}
