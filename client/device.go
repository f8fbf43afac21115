package client

import (
	"slices"

	"rolodex/api"
	"rolodex/bin"
	"rolodex/blobs"
	"rolodex/crdt"
	"rolodex/dot"
	"rolodex/proto"
)

const photoField = "photo"

// device is what a device has on its disk. It changes by records alone, so that the same records, done again, come to the same.
type device struct {
	dev     int
	opens   uint64
	counter uint64
	epoch   uint64
	cursor  uint64
	state   *crdt.State
	outbox  []api.Event
	blobs   *blobs.Store
	uploads map[string]struct{}
}

func newDevice(dev int) *device {
	return &device{dev: dev, state: crdt.New(), blobs: blobs.New(), uploads: map[string]struct{}{}}
}

// The kinds of records.
const (
	opened   = iota // it was opened once more
	edited          // an own event, with a photo or not
	acked           // the server has its events up to a number
	pulled          // a PullAck
	resynced        // a ResyncAck
	settled         // uploads are none any more: a Have
	fetched         // a blob
)

// do does a record; false, if it is none: then nothing has changed.
func (d *device) do(kind int, b []byte) bool {
	switch kind {
	case opened:
		d.opens++
		return len(b) == 0
	case edited:
		return d.edit(b)
	case acked:
		return d.acknowledge(b)
	case pulled:
		return d.pull(b)
	case resynced:
		return d.resync(b)
	case settled:
		return d.settle(b)
	case fetched:
		d.blobs.Put(b)
		return true
	}
	return false
}

// laidEdit lays an own event, and a photo (nil: there is none).
func laidEdit(e api.Event, photo []byte) ([]byte, api.Errno) {
	b, err := crdt.EncodeEvent(e)
	if err != api.OK {
		return nil, err
	}
	out := bin.Text(nil, string(b))
	if photo == nil {
		return append(out, 0), api.OK
	}
	return append(append(out, 1), bin.Text(nil, string(photo))...), api.OK
}

func (d *device) edit(b []byte) bool {
	r := bin.Read(b)
	e, err := crdt.DecodeEvent([]byte(r.Text(r.Left())))
	hasPhoto := r.Byte() == 1
	var photo []byte
	if hasPhoto {
		photo = []byte(r.Text(api.MaxPhoto))
	}
	if err != api.OK || r.End() != api.OK {
		return false
	}
	if hasPhoto {
		_, manifest, chunks, _ := blobs.Cut(photo)
		for _, chunk := range chunks {
			d.blobs.Put(chunk)
		}
		d.blobs.Put(manifest)
	}
	return d.addOwn(e)
}

// addOwn puts an own event into the state and the outbox.
func (d *device) addOwn(e api.Event) bool {
	if _, err := d.state.Apply(e); err != api.OK {
		return false
	}
	d.counter = e.Dot.N
	d.outbox = append(d.outbox, e)
	if e.Op == api.Set && e.Field == photoField {
		d.upload(e.Value)
	}
	return true
}

// upload makes what it has of a photo uploads.
func (d *device) upload(name string) {
	manifest, ok := d.blobs.Get(name)
	_, chunks, e := blobs.Names(manifest)
	if !ok || e != api.OK {
		return
	}
	d.uploads[name] = struct{}{}
	for _, chunk := range chunks {
		if _, ok := d.blobs.Get(chunk); ok {
			d.uploads[chunk] = struct{}{}
		}
	}
}

func (d *device) acknowledge(b []byte) bool {
	m, e := proto.DecodePushAck(b)
	if e != api.OK {
		return false
	}
	for len(d.outbox) > 0 && d.outbox[0].Dot.N <= m.Upto {
		d.outbox = d.outbox[1:]
	}
	return true
}

// fewDots is so few beside what a set of dots takes (4096 of a device) that no page of events passes that with them.
const fewDots = 2048

// canTake asks whether the state's Apply takes events, one behind the other. It is tried on a copy only where it could fail at all: on a state that has seen many dots that stand alone.
func (d *device) canTake(l []api.Event) bool {
	many := func(p dot.Part) bool { return len(p.More) > fewDots }
	if !slices.ContainsFunc(d.state.Seen().Parts(), many) {
		return true
	}
	state := d.state.Copy()
	for _, x := range l {
		if _, e := state.Apply(x); e != api.OK {
			return false
		}
	}
	return true
}

func (d *device) pull(b []byte) bool {
	m, e := proto.DecodePullAck(b)
	if e != api.OK || !d.canTake(m.Events) {
		return false
	}
	for _, x := range m.Events {
		d.state.Apply(x)
	}
	d.cursor = m.Next
	return true
}

// resync begins anew on the server's state: what of the outbox that has not is made anew.
func (d *device) resync(b []byte) bool {
	m, e := proto.DecodeResyncAck(b)
	if e != api.OK {
		return false
	}
	state, e := crdt.Decode(m.State)
	if e != api.OK {
		return false
	}
	old, seen := d.outbox, state.Seen()
	d.epoch, d.cursor, d.state, d.outbox = m.Epoch, m.Cursor, state, nil
	for _, x := range old {
		if seen.Has(x.Dot) {
			continue
		}
		if again, e := d.madeAnew(x); e == api.OK {
			d.addOwn(again)
		}
	}
	return true
}

func (d *device) madeAnew(x api.Event) (api.Event, api.Errno) {
	dot := api.Dot{Dev: d.dev, N: d.counter + 1}
	if x.Op == api.Drop {
		return d.state.MakeDrop(dot, x.Contact, x.Field)
	}
	return d.state.MakeSet(dot, x.Contact, x.Field, x.Value)
}

func (d *device) settle(b []byte) bool {
	m, e := proto.DecodeHave(b)
	if e != api.OK {
		return false
	}
	for _, name := range m.Names {
		delete(d.uploads, name)
	}
	return true
}
