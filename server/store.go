package server

import (
	"strconv"
	"strings"

	"rolodex/api"
	"rolodex/bin"
	"rolodex/crdt"
	"rolodex/lsm"
	"rolodex/sha"
)

// The keys of the store: m; d and a device; e and a position; r and a token's number; s, a snapshot's number and a part's; b, a blob's name and a piece's number; u and a blob's name. What begins with one of these letters is below the next letter.
const (
	metaKey      = "m"
	deviceLetter = "d"
	eventLetter  = "e"
	tokenLetter  = "r"
	partLetter   = "s"
	pieceLetter  = "b"
	useLetter    = "u"
	afterUses    = "v"
	keyDigits    = 16
	pieceBytes   = api.MaxValue
)

func padded(n uint64) string {
	digits := strconv.FormatUint(n, 16)
	return strings.Repeat("0", keyDigits-len(digits)) + digits
}

func eventKey(position uint64) string { return eventLetter + padded(position) }

func revokedKey(num uint64) string { return tokenLetter + padded(num) }

func partKey(snapshot, part uint64) string { return partLetter + padded(snapshot) + padded(part) }

func pieceKey(name string, piece int) string { return pieceLetter + name + strconv.Itoa(piece) }

func useKey(name string) string { return useLetter + name }

func laid(numbers ...uint64) string {
	var b []byte
	for _, v := range numbers {
		b = append(b, bin.Uint(nil, v)...)
	}
	return string(b)
}

func metaOp(m meta) lsm.Op {
	return lsm.Op{Key: metaKey, Value: laid(m.next, m.base, m.issued, m.snapshot, m.parts)}
}

func readMeta(value string) (meta, bool) {
	r := bin.Read([]byte(value))
	m := meta{next: r.Uint(), base: r.Uint(), issued: r.Uint(), snapshot: r.Uint(), parts: r.Uint()}
	return m, r.End() == api.OK
}

func deviceOp(d Info) lsm.Op {
	evicted := uint64(0)
	if d.Evicted {
		evicted = 1
	}
	return lsm.Op{Key: deviceLetter + padded(uint64(d.Dev)), Value: laid(uint64(d.Dev), d.Epoch, d.Upto, d.Cursor, uint64(d.Last), evicted)}
}

func readDevice(value string) (Info, bool) {
	r := bin.Read([]byte(value))
	d := Info{Dev: r.Int(api.MaxDevices - 1), Epoch: r.Uint(), Upto: r.Uint(), Cursor: r.Uint(), Last: int64(r.Uint())}
	d.Evicted = r.Int(1) == 1
	return d, r.End() == api.OK
}

func useOp(name string, u use) lsm.Op {
	return lsm.Op{Key: useKey(name), Value: laid(uint64(u.last), u.snapshot)}
}

func readUse(value string) (use, bool) {
	r := bin.Read([]byte(value))
	u := use{last: int64(r.Uint()), snapshot: r.Uint()}
	return u, r.End() == api.OK
}

// pieceOps lays a blob into values, of which a great one needs two.
func pieceOps(name string, b []byte) []lsm.Op {
	ops := []lsm.Op{{Key: pieceKey(name, 0), Value: string(b[:min(len(b), pieceBytes)])}}
	if len(b) > pieceBytes {
		ops = append(ops, lsm.Op{Key: pieceKey(name, 1), Value: string(b[pieceBytes:])})
	}
	return ops
}

// blob tells a blob's bytes.
func (s *Server) blob(name string) ([]byte, bool) {
	if _, ok := s.uses[name]; !ok {
		return nil, false
	}
	first, ok := s.db.Get(pieceKey(name, 0))
	second := ""
	if len(first) == pieceBytes {
		second, _ = s.db.Get(pieceKey(name, 1))
	}
	return []byte(first + second), ok
}

// event tells the event of a position.
func (s *Server) event(position uint64) (api.Event, bool) {
	value, ok := s.db.Get(eventKey(position))
	if !ok {
		return api.Event{}, false
	}
	x, e := crdt.DecodeEvent([]byte(value))
	return x, e == api.OK
}

// load reads all from the store; false, if something is not as it was written.
func (s *Server) load() bool {
	if value, ok := s.db.Get(metaKey); ok {
		if s.meta, ok = readMeta(value); !ok {
			return false
		}
	}
	return s.loadDevices() && s.loadTokens() && s.loadLog()
}

func (s *Server) loadDevices() bool {
	for _, x := range s.db.Scan(deviceLetter, eventLetter, -1) {
		d, ok := readDevice(x.Value)
		if !ok {
			return false
		}
		s.devices[d.Dev] = d
	}
	return true
}

// loadTokens brings the keeper to where it was: it gives as many tokens as it had given.
func (s *Server) loadTokens() bool {
	for range s.meta.issued {
		s.keeper.Issue(0, 0, 0, 1)
	}
	for _, x := range s.db.Scan(tokenLetter, partLetter, -1) {
		num, err := strconv.ParseUint(x.Key[len(tokenLetter):], 16, 64)
		if err != nil || s.keeper.Revoke(num) != api.OK {
			return false
		}
		s.revoked[num] = struct{}{}
	}
	return true
}

// loadLog makes the state of the snapshot and the log's events, and finds the blobs that did not go with the snapshot.
func (s *Server) loadLog() bool {
	state, dropped, ok := s.loadSnapshot()
	if !ok || !s.applyLog(state, s.meta.next) {
		return false
	}
	s.state = state
	for _, x := range s.db.Scan(useLetter, afterUses, -1) {
		name := x.Key[len(useLetter):]
		u, ok := readUse(x.Value)
		if !ok {
			return false
		}
		if _, gone := dropped[name]; !gone || u.snapshot == s.meta.snapshot {
			s.uses[name] = u
		}
	}
	return true
}

// applyLog applies the events from base on, up to a position, to a state.
func (s *Server) applyLog(state *crdt.State, upto uint64) bool {
	for position := s.meta.base; position < upto; position++ {
		x, ok := s.event(position)
		if !ok {
			return false
		}
		if _, e := state.Apply(x); e != api.OK {
			return false
		}
	}
	return true
}

// A snapshot's bytes: the state of the events below base, as a text; how many blobs were dropped with it, and their names.
func laidSnapshot(state *crdt.State, dropped []string) []byte {
	b := bin.Text(nil, string(state.Encode()))
	b = append(b, bin.Uint(nil, uint64(len(dropped)))...)
	for _, name := range dropped {
		b = append(b, bin.Text(nil, name)...)
	}
	return b
}

func (s *Server) loadSnapshot() (*crdt.State, map[string]struct{}, bool) {
	if s.meta.snapshot == 0 {
		return crdt.New(), nil, true
	}
	var b []byte
	for part := range s.meta.parts {
		value, ok := s.db.Get(partKey(s.meta.snapshot, part))
		if !ok {
			return nil, nil, false
		}
		b = append(b, value...)
	}
	r := bin.Read(b)
	state, e := crdt.Decode([]byte(r.Text(r.Left())))
	dropped := map[string]struct{}{}
	for range r.Int(r.Left()) {
		dropped[r.Text(len(sha.Hex([32]byte{})))] = struct{}{}
	}
	return state, dropped, e == api.OK && r.End() == api.OK
}
