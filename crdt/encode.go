package crdt

import (
	"cmp"

	"rolodex/api"
	"rolodex/bin"
	"rolodex/dot"
)

// Encode lays it into bytes.
func (s *State) Encode() []byte {
	b := bin.Text(nil, string(s.seen.Encode()))
	b = append(b, bin.Uint(nil, uint64(len(s.entries)))...)
	for _, x := range s.Entries() {
		b = append(b, laidDot(x.Dot)...)
		b = append(b, bin.Text(nil, x.Contact)...)
		b = append(b, bin.Text(nil, x.Field)...)
		b = append(b, bin.Text(nil, x.Value)...)
	}
	return b
}

// Decode reads one.
func Decode(b []byte) (*State, api.Errno) {
	r := bin.Read(b)
	seen, e := dot.Decode([]byte(r.Text(r.Left())))
	if e != api.OK {
		return nil, api.EFORM
	}
	s := New()
	s.seen = seen
	var last api.Entry
	for i := range r.Int(r.Left()) {
		x := api.Entry{Dot: readDot(r)}
		x.Contact = r.Text(api.MaxField)
		x.Field = r.Text(api.MaxField)
		x.Value = r.Text(api.MaxText)
		inOrder := i == 0 || cmp.Or(cmp.Compare(last.Contact, x.Contact), compareEntries(last, x)) < 0
		if r.Err() != api.OK || !inOrder || !s.mayHave(x) {
			return nil, api.EFORM
		}
		s.put(x)
		last = x
	}
	if r.End() != api.OK {
		return nil, api.EFORM
	}
	return s, api.OK
}

// mayHave asks whether an entry can be one of a state that has seen what s has.
func (s *State) mayHave(x api.Entry) bool {
	_, twice := s.entries[x.Dot]
	return !twice && x.Contact != "" && x.Field != "" && s.seen.Has(x.Dot)
}
