package server

import (
	"slices"
	"strings"

	"rolodex/api"
	"rolodex/crdt"
	"rolodex/dot"
	"rolodex/httpwire"
	"rolodex/lsm"
	"rolodex/proto"
	"rolodex/sha"
)

const (
	idHeader    = "X-Id"
	mostId      = 100
	tokenHeader = "Authorization"
	tokenWord   = "Bearer "
	blobPath    = "/blob/"
	mostBlob    = api.MaxPhoto + 100
)

// The codes of responses.
const (
	good        = 200
	badRequest  = 400
	noToken     = 401
	notFound    = 404
	conflict    = 409
	tooGreat    = 413
	unavailable = 503
)

// Handle answers a request.
func (s *Server) Handle(req []byte, now int64) []byte {
	s.requests.Add(1)
	r, n, e := httpwire.ReadRequest(req)
	code, body := badRequest, []byte(nil)
	switch {
	case e == api.ELIMIT:
		code = tooGreat
	case e == api.OK && n == len(req):
		code, body = s.answer(r, now)
	}
	response := httpwire.Response{Code: code, Body: body}
	if id, ok := r.Get(idHeader); ok && len(id) <= mostId {
		response.Headers = []httpwire.Header{{Name: idHeader, Value: id}}
	}
	b, _ := httpwire.PrintResponse(response)
	return b
}

// answer does what a whole request asks for.
func (s *Server) answer(r httpwire.Request, now int64) (int, []byte) {
	device, ok := s.sender(r, now)
	if !ok {
		return noToken, nil
	}
	device.Last = max(device.Last, now)
	switch r.Method + " " + r.Path {
	case "POST /push":
		return s.push(device, r.Body)
	case "POST /pull":
		return s.pull(device, r.Body)
	case "POST /have":
		return s.have(device, r.Body, now)
	case "PUT /blob":
		return s.put(device, r.Body, now)
	case "POST /resync":
		return s.resync(device, r.Body)
	}
	name, ok := strings.CutPrefix(r.Path, blobPath)
	if _, e := sha.Read(name); r.Method != "GET" || !ok || e != api.OK {
		return notFound, nil
	}
	return s.get(device, name, r.Body)
}

// sender tells the device whose token a request has.
func (s *Server) sender(r httpwire.Request, now int64) (Info, bool) {
	value, _ := r.Get(tokenHeader)
	token, ok := strings.CutPrefix(value, tokenWord)
	if !ok {
		return Info{}, false
	}
	claim, e := s.keeper.Verify(token, now)
	if e != api.OK {
		return Info{}, false
	}
	device, ok := s.devices[claim.Dev]
	return device, ok
}

// done writes what a request changes, with its device, and tells the response's code.
func (s *Server) done(m meta, device Info, ops []lsm.Op) int {
	if e := s.save(m, []Info{device}, ops); e != api.OK {
		return unavailable
	}
	return good
}

func (s *Server) push(device Info, body []byte) (int, []byte) {
	m, e := proto.DecodePush(body)
	if e != api.OK {
		return badRequest, nil
	}
	if device.Evicted || m.Epoch != device.Epoch {
		return conflict, nil
	}
	taken, ok := newEvents(device, m.Events)
	if !ok {
		return badRequest, nil
	}
	if !s.canTake(taken) {
		return badRequest, nil
	}
	numbers := s.meta
	var ops []lsm.Op
	for _, x := range taken {
		b, _ := crdt.EncodeEvent(x)
		ops = append(ops, lsm.Op{Key: eventKey(numbers.next), Value: string(b)})
		numbers.next++
		device.Upto = x.Dot.N
	}
	answer, _ := proto.EncodePushAck(proto.PushAck{Upto: device.Upto})
	if code := s.done(numbers, device, ops); code != good {
		return code, nil
	}
	for _, x := range taken {
		s.state.Apply(x)
		s.encoded = &encoded{}
	}
	return good, answer
}

// fewDots is so few beside what a set of dots takes (4096 of a device) that no push passes that with them.
const fewDots = 2048

// canTake asks whether the state's Apply takes events, one behind the other. It is tried on a copy only where it could fail at all: on a state that has seen many dots that stand alone.
func (s *Server) canTake(l []api.Event) bool {
	many := func(p dot.Part) bool { return len(p.More) > fewDots }
	if !slices.ContainsFunc(s.state.Seen().Parts(), many) {
		return true
	}
	state := s.state.Copy()
	for _, x := range l {
		if _, e := state.Apply(x); e != api.OK {
			return false
		}
	}
	return true
}

// newEvents tells those of a push that are above Upto; false, if they do not go on from there.
func newEvents(device Info, l []api.Event) ([]api.Event, bool) {
	for i, x := range l {
		if x.Dot.Dev != device.Dev || x.Dot.N != l[0].Dot.N+uint64(i) {
			return nil, false
		}
	}
	if len(l) == 0 {
		return nil, true
	}
	first := l[0].Dot.N
	if first > device.Upto+1 {
		return nil, false
	}
	return l[min(uint64(len(l)), device.Upto+1-first):], true
}

func (s *Server) pull(device Info, body []byte) (int, []byte) {
	m, e := proto.DecodePull(body)
	if e != api.OK {
		return badRequest, nil
	}
	if device.Evicted || m.Epoch != device.Epoch || m.Cursor < s.meta.base {
		return conflict, nil
	}
	if m.Cursor > s.meta.next {
		return badRequest, nil
	}
	end := min(s.meta.next, m.Cursor+uint64(min(m.Most, api.PageEvents)))
	ack := proto.PullAck{Next: end, More: end < s.meta.next}
	for position := m.Cursor; position < end; position++ {
		x, ok := s.event(position)
		if !ok {
			return unavailable, nil
		}
		ack.Events = append(ack.Events, x)
	}
	answer, e := proto.EncodePullAck(ack)
	if e != api.OK {
		return unavailable, nil
	}
	device.Cursor = max(device.Cursor, m.Cursor)
	if code := s.done(s.meta, device, nil); code != good {
		return code, nil
	}
	return good, answer
}

func (s *Server) have(device Info, body []byte, now int64) (int, []byte) {
	m, e := proto.DecodeHave(body)
	if e != api.OK {
		return badRequest, nil
	}
	var want []string
	var ops []lsm.Op
	used := map[string]use{}
	for _, name := range m.Names {
		u, ok := s.uses[name]
		if !ok && !slices.Contains(want, name) {
			want = append(want, name)
		}
		if ok && u.last < now {
			u.last = now
			used[name] = u
			ops = append(ops, useOp(name, u))
		}
	}
	answer, _ := proto.EncodeHaveAck(proto.HaveAck{Want: want})
	if code := s.done(s.meta, device, ops); code != good {
		return code, nil
	}
	for name, u := range used {
		s.uses[name] = u
	}
	return good, answer
}

func (s *Server) put(device Info, body []byte, now int64) (int, []byte) {
	if len(body) > mostBlob {
		return badRequest, nil
	}
	name := sha.Hex(sha.Sum(body))
	u, ok := s.uses[name]
	var ops []lsm.Op
	if !ok {
		u = use{last: now, snapshot: s.meta.snapshot}
		ops = append(pieceOps(name, body), useOp(name, u))
	} else if u.last < now {
		u.last = now
		ops = append(ops, useOp(name, u))
	}
	if code := s.done(s.meta, device, ops); code != good {
		return code, nil
	}
	s.uses[name] = u
	return good, []byte(name)
}

func (s *Server) get(device Info, name string, body []byte) (int, []byte) {
	if len(body) > 0 {
		return badRequest, nil
	}
	b, ok := s.blob(name)
	if !ok {
		return notFound, nil
	}
	if code := s.done(s.meta, device, nil); code != good {
		return code, nil
	}
	return good, b
}

func (s *Server) resync(device Info, body []byte) (int, []byte) {
	m, e := proto.DecodeResync(body)
	if e != api.OK {
		return badRequest, nil
	}
	device.Upto = max(device.Upto, m.Upto)
	if !device.Evicted {
		device.Epoch++
	}
	device.Evicted = false
	device.Cursor = s.meta.next
	answer, e := proto.EncodeResyncAck(proto.ResyncAck{Epoch: device.Epoch, Cursor: s.meta.next, State: s.encoded.of(s.state)})
	if e != api.OK {
		return unavailable, nil
	}
	if code := s.done(s.meta, device, nil); code != good {
		return code, nil
	}
	return good, answer
}
