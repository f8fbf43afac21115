package crdt

import (
	"slices"

	"rolodex/api"
	"rolodex/bin"
	"rolodex/dot"
)

const (
	mostKills  = 64
	mostNumber = 1 << 40
)

// Good tells whether an event may be.
func Good(e api.Event) bool { return len(e.Kills) <= mostKills && goodBut(e) }

// goodBut asks whether an event may be, however many it kills.
func goodBut(e api.Event) bool {
	if !dot.Good(e.Dot) || len(e.Contact) < 1 || len(e.Contact) > api.MaxField || len(e.Field) > api.MaxField {
		return false
	}
	switch e.Op {
	case api.Set:
		if e.Field == "" || len(e.Value) > api.MaxText {
			return false
		}
	case api.Drop:
		if e.Value != "" {
			return false
		}
	default:
		return false
	}
	for i, d := range e.Kills {
		if !dot.Good(d) || d == e.Dot || i > 0 && !dot.Less(e.Kills[i-1], d) {
			return false
		}
	}
	return true
}

// MakeSet makes the event that sets a field.
func (s *State) MakeSet(d api.Dot, contact, field, value string) (api.Event, api.Errno) {
	return made(api.Event{Dot: d, Op: api.Set, Contact: contact, Field: field, Value: value, Kills: s.killed(contact, field)})
}

// MakeDrop makes the event that takes a field, or a contact, away.
func (s *State) MakeDrop(d api.Dot, contact, field string) (api.Event, api.Errno) {
	kills := s.killed(contact, field)
	if field == "" {
		kills = dotsOf(s.contacts[contact])
	}
	if len(kills) == 0 {
		return api.Event{}, api.ENONE
	}
	return made(api.Event{Dot: d, Op: api.Drop, Contact: contact, Field: field, Kills: kills})
}

func made(e api.Event) (api.Event, api.Errno) {
	if !goodBut(e) {
		return api.Event{}, api.EARG
	}
	if len(e.Kills) > mostKills {
		return api.Event{}, api.ELIMIT
	}
	return e, api.OK
}

// killed tells the dots of all entries of a contact's field.
func (s *State) killed(contact, field string) []api.Dot {
	var l []api.Entry
	for _, x := range s.contacts[contact] {
		if x.Field == field {
			l = append(l, x)
		}
	}
	return dotsOf(l)
}

func dotsOf(l []api.Entry) []api.Dot {
	var dots []api.Dot
	for _, x := range l {
		dots = append(dots, x.Dot)
	}
	slices.SortFunc(dots, compareDots)
	return dots
}

// EncodeEvent lays an event into bytes.
func EncodeEvent(e api.Event) ([]byte, api.Errno) {
	if !Good(e) {
		return nil, api.EARG
	}
	b := laidDot(e.Dot)
	b = append(b, bin.Uint(nil, uint64(e.Op))...)
	b = append(b, bin.Text(nil, e.Contact)...)
	b = append(b, bin.Text(nil, e.Field)...)
	b = append(b, bin.Text(nil, e.Value)...)
	b = append(b, bin.Uint(nil, uint64(len(e.Kills)))...)
	for _, d := range e.Kills {
		b = append(b, laidDot(d)...)
	}
	return b, api.OK
}

func laidDot(d api.Dot) []byte { return bin.Uint(bin.Uint(nil, uint64(d.Dev)), d.N) }

func readDot(r *bin.Reader) api.Dot {
	return api.Dot{Dev: r.Int(api.MaxDevices - 1), N: uint64(r.Int(mostNumber))}
}

// DecodeEvent reads one.
func DecodeEvent(b []byte) (api.Event, api.Errno) {
	r := bin.Read(b)
	e := api.Event{Dot: readDot(r), Op: r.Int(api.Drop)}
	e.Contact = r.Text(api.MaxField)
	e.Field = r.Text(api.MaxField)
	e.Value = r.Text(api.MaxText)
	for range r.Int(mostKills) {
		e.Kills = append(e.Kills, readDot(r))
	}
	if r.End() != api.OK || !Good(e) {
		return api.Event{}, api.EFORM
	}
	return e, api.OK
}
