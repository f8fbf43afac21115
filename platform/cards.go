package platform

import (
	"cmp"
	"slices"
	"strconv"
	"strings"

	"rolodex/api"
	"rolodex/vcard"
	"rolodex/view"
)

const photoField = "photo"

// Import reads vCards into a device.
func (w *World) Import(dev int, text string) (int, int, api.Errno) {
	w.steps.Add(1)
	c := w.Device(dev)
	if c == nil {
		return 0, 0, api.EARG
	}
	cards, line, e := vcard.Import(text)
	if e != api.OK {
		return 0, line, e
	}
	count := 0
	for _, card := range cards {
		for _, p := range card.Fields {
			if p.Field == photoField || !vcard.Good(p) {
				continue
			}
			if _, e := c.Set(card.Contact, p.Field, p.Value); e != api.OK {
				return 0, 0, e
			}
			count++
		}
	}
	return count, 0, api.OK
}

// Export tells a contact as a vCard.
func (w *World) Export(dev int, contact string) (string, api.Errno) {
	w.steps.Add(1)
	c := w.Device(dev)
	if c == nil {
		return "", api.EARG
	}
	fields, e := c.Get(contact)
	if e != api.OK {
		return "", e
	}
	return vcard.Export(vcard.Card{Contact: contact, Fields: exported(fields)})
}

// numberedPair is a field, and its name in its two parts.
type numberedPair struct {
	pair   vcard.Pair
	name   string
	number int
}

// exported tells the fields that a vCard can have, in its order.
func exported(fields []view.Field) []vcard.Pair {
	var l []numberedPair
	for _, f := range fields {
		p := vcard.Pair{Field: f.Name, Value: f.Value}
		if vcard.Good(p) {
			name, number := cutNumber(p.Field)
			l = append(l, numberedPair{p, name, number})
		}
	}
	slices.SortFunc(l, func(a, b numberedPair) int {
		return cmp.Or(cmp.Compare(a.name, b.name), cmp.Compare(a.number, b.number))
	})
	var out []vcard.Pair
	last := numberedPair{}
	for _, x := range l {
		if x.name != last.name {
			last = numberedPair{name: x.name}
		}
		if x.number == last.number+1 {
			out = append(out, x.pair)
			last = x
		}
	}
	return out
}

// cutNumber cuts a good field's name from its number: what stands behind its last '#', if that is within no quotes (then a quote stands behind it).
func cutNumber(field string) (string, int) {
	i := strings.LastIndexByte(field, '#')
	if i < 0 {
		return field, 1
	}
	n, err := strconv.Atoi(field[i+1:])
	if err != nil {
		return field, 1
	}
	return field[:i], n
}
