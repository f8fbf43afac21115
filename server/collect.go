package server

import (
	"math"
	"slices"
	"strings"

	"rolodex/api"
	"rolodex/blobs"
	"rolodex/lsm"
	"rolodex/sha"
)

const (
	photoField = "photo"
	batchParts = 10
	batchKeys  = 500
)

// Collect lets go of devices that stay away, and of what nobody needs any more. All that it takes to know the new moment is written ahead; one Write then switches to it; what is left of the old one is only taken away behind that, and makes no difference.
func (s *Server) Collect(now int64) (evicted, dropped int, e api.Errno) {
	before := int64(math.MinInt64)
	if now >= before+s.options.Stale {
		before = now - s.options.Stale
	}
	devices := s.stale(before)
	base := s.leastCursor(devices)
	gone := s.unneeded(before)
	m := s.meta
	if base > m.base || len(gone) > 0 {
		parts, e := s.writeSnapshot(base, gone)
		if e != api.OK {
			return 0, 0, e
		}
		m.base, m.snapshot, m.parts = base, m.snapshot+1, parts
	}
	dropped = int(base - s.meta.base)
	if e := s.save(m, devices, nil); e != api.OK {
		return 0, 0, e
	}
	for _, name := range gone {
		delete(s.uses, name)
	}
	if dropped > 0 || len(gone) > 0 {
		s.sweep()
	}
	return len(devices), dropped, api.OK
}

// stale tells the devices that are to be evicted, as they are then.
func (s *Server) stale(before int64) []Info {
	var l []Info
	for _, d := range s.Devices() {
		if d.Last < before && !d.Evicted {
			d.Evicted = true
			d.Epoch++
			l = append(l, d)
		}
	}
	return l
}

// leastCursor tells how far the log can be dropped, once some devices are evicted.
func (s *Server) leastCursor(evicted []Info) uint64 {
	least := s.meta.next
	for _, d := range s.devices {
		isOut := slices.ContainsFunc(evicted, func(x Info) bool { return x.Dev == d.Dev })
		if !d.Evicted && !isOut {
			least = min(least, d.Cursor)
		}
	}
	return max(least, s.meta.base)
}

// unneeded tells the blobs that no photo needs and that nobody used of late.
func (s *Server) unneeded(before int64) []string {
	needed := map[string]struct{}{}
	for _, x := range s.state.Entries() {
		if _, e := sha.Read(x.Value); x.Field != photoField || e != api.OK {
			continue
		}
		needed[x.Value] = struct{}{}
		b, _ := s.blob(x.Value)
		_, chunks, _ := blobs.Names(b)
		for _, name := range chunks {
			needed[name] = struct{}{}
		}
	}
	var l []string
	for _, name := range s.Blobs() {
		if _, ok := needed[name]; !ok && s.uses[name].last < before {
			l = append(l, name)
		}
	}
	return l
}

// writeSnapshot writes the parts of the next snapshot, which none is told of yet.
func (s *Server) writeSnapshot(base uint64, gone []string) (uint64, api.Errno) {
	state, _, ok := s.loadSnapshot()
	if !ok || !s.applyLog(state, base) {
		return 0, api.ECORRUPT
	}
	parts := uint64(0)
	var ops []lsm.Op
	for part := range slices.Chunk(laidSnapshot(state, s.left(gone)), api.MaxValue) {
		ops = append(ops, lsm.Op{Key: partKey(s.meta.snapshot+1, parts), Value: string(part)})
		parts++
	}
	for batch := range slices.Chunk(ops, batchParts) {
		if e := s.db.Write(batch, false); e != api.OK {
			return 0, e
		}
	}
	return parts, api.OK
}

// left tells the blobs that the store has still, but the server has not, once some are gone: what was swept may come back in a crash.
func (s *Server) left(gone []string) []string {
	var l []string
	for _, x := range s.db.Scan(useLetter, afterUses, -1) {
		name := x.Key[len(useLetter):]
		_, ok := s.uses[name]
		if _, isGone := slices.BinarySearch(gone, name); !ok || isGone {
			l = append(l, name)
		}
	}
	return l
}

// sweep takes away from the store what makes no difference any more. That it can't be is no harm: the next one takes it.
func (s *Server) sweep() {
	var ops []lsm.Op
	for _, x := range s.db.Scan(pieceLetter, "", -1) {
		if !s.isNeeded(x.Key) {
			ops = append(ops, lsm.Op{Key: x.Key, Gone: true})
		}
	}
	for batch := range slices.Chunk(ops, batchKeys) {
		if s.db.Write(batch, false) != api.OK {
			return
		}
	}
}

func (s *Server) isNeeded(key string) bool {
	letter, rest := key[:1], key[1:]
	switch letter {
	case pieceLetter:
		_, ok := s.uses[rest[:len(rest)-1]]
		return ok
	case useLetter:
		_, ok := s.uses[rest]
		return ok
	case eventLetter:
		return key >= eventKey(s.meta.base)
	case partLetter:
		return strings.HasPrefix(rest, padded(s.meta.snapshot)) && key < partKey(s.meta.snapshot, s.meta.parts)
	}
	return true
}
