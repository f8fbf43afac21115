package proto

import (
	"rolodex/api"
	"rolodex/bin"
	"rolodex/crdt"
	"rolodex/sha"
)

// writer lays a message's parts, as long as all of them may be.
type writer struct {
	bytes []byte
	wrong bool
}

func (w *writer) demand(ok bool) { w.wrong = w.wrong || !ok }

func (w *writer) lay(b []byte) { w.bytes = append(w.bytes, b...) }

func (w *writer) told() ([]byte, api.Errno) {
	if w.wrong {
		return nil, api.EARG
	}
	return w.bytes, api.OK
}

func (w *writer) number(v uint64) {
	w.demand(v <= mostNumber)
	w.lay(bin.Uint(nil, v))
}

func (w *writer) flag(v bool) {
	if v {
		w.lay([]byte{1})
	} else {
		w.lay([]byte{0})
	}
}

func (w *writer) events(l []api.Event) {
	w.demand(len(l) <= api.PageEvents)
	w.lay(bin.Uint(nil, uint64(len(l))))
	for _, x := range l {
		b, e := crdt.EncodeEvent(x)
		w.demand(e == api.OK)
		w.lay(bin.Text(nil, string(b)))
	}
}

func (w *writer) names(l []string) {
	w.demand(len(l) <= mostNames)
	w.lay(bin.Uint(nil, uint64(len(l))))
	for _, n := range l {
		_, e := sha.Read(n)
		w.demand(e == api.OK)
		w.lay(bin.Text(nil, n))
	}
}

// reader reads them.
type reader struct {
	bytes *bin.Reader
	wrong bool
}

func newReader(b []byte) *reader { return &reader{bytes: bin.Read(b)} }

func (r *reader) ended() bool { return !r.wrong && r.bytes.End() == api.OK }

func (r *reader) number() uint64 { return uint64(r.bytes.Int(mostNumber)) }

func (r *reader) events() []api.Event {
	var l []api.Event
	for range r.bytes.Int(api.PageEvents) {
		x, e := crdt.DecodeEvent([]byte(r.bytes.Text(r.bytes.Left())))
		r.wrong = r.wrong || e != api.OK
		l = append(l, x)
	}
	return l
}

func (r *reader) names() []string {
	var l []string
	for range r.bytes.Int(mostNames) {
		n := r.bytes.Text(r.bytes.Left())
		_, e := sha.Read(n)
		r.wrong = r.wrong || e != api.OK
		l = append(l, n)
	}
	return l
}
