package lsm

import (
	"iter"
	"sort"

	"rolodex/api"
	"rolodex/merge"
)

// pieceItems is how many items of each list a Scan reads at first.
const pieceItems = 32

// Get tells a key's value.
func (db *DB) Get(key string) (string, bool) { return db.get(key, always) }

// GetAt tells a key's value at a moment.
func (db *DB) GetAt(key string, snap uint64) (string, bool, api.Errno) {
	if db.held[snap] == 0 {
		return "", false, api.ENONE
	}
	value, ok := db.get(key, snap)
	return value, ok, api.OK
}

// get finds the latest item of a key: the one with the greatest number, wherever it is.
func (db *DB) get(key string, seq uint64) (string, bool) {
	best, found := db.mem.Get(key, seq)
	for _, s := range db.tables {
		x, ok := s.opened().Get(key, seq)
		if ok && (!found || x.Seq > best.Seq) {
			best, found = x, true
		}
	}
	if !found || best.Gone {
		return "", false
	}
	return best.Value, true
}

// Scan tells keys and values.
func (db *DB) Scan(from, to string, most int) []Op { return db.scan(from, to, most, always) }

// ScanAt tells keys and values at a moment.
func (db *DB) ScanAt(from, to string, most int, snap uint64) ([]Op, api.Errno) {
	if db.held[snap] == 0 {
		return nil, api.ENONE
	}
	return db.scan(from, to, most, snap), api.OK
}

// scan reads a piece of each list at a time, so that few keys are little work, however many stand behind them.
func (db *DB) scan(from, to string, most int, seq uint64) []Op {
	if most == 0 {
		return nil
	}
	piece := pieceItems
	var out []Op
	for {
		all, next := db.piece(from, to, piece)
		for _, x := range merge.Seen(all, seq) {
			out = append(out, Op{Key: x.Key, Value: x.Value})
			if len(out) == most {
				return out
			}
		}
		if next == "" {
			return out
		}
		// A key may have more items than a piece: then it takes a greater one to get on.
		from = next
		piece *= 2
	}
}

// piece tells all items from a key on up to another one (not with it), at which the next piece begins; it is empty, if there are no more.
func (db *DB) piece(from, to string, most int) ([]api.Item, string) {
	sources := []iter.Seq[api.Item]{db.mem.From(from)}
	for _, s := range db.tables {
		sources = append(sources, s.opened().From(from))
	}
	var lists [][]api.Item
	next := ""
	for _, items := range sources {
		l, isCut := first(items, to, most)
		if last := len(l) - 1; isCut && (next == "" || l[last].Key < next) {
			next = l[last].Key
		}
		lists = append(lists, l)
	}
	all, _ := merge.Merge(lists)
	if next != "" {
		end := sort.Search(len(all), func(i int) bool { return all[i].Key >= next })
		all = all[:end]
	}
	return all, next
}

// first takes the items whose keys are below to (all, if it is empty), at most so many; and tells whether there may be more.
func first(items iter.Seq[api.Item], to string, most int) ([]api.Item, bool) {
	var l []api.Item
	for x := range items {
		if to != "" && x.Key >= to {
			return l, false
		}
		l = append(l, x)
		if len(l) == most {
			return l, true
		}
	}
	return l, false
}
