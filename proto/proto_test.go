package proto

import (
	"bytes"
	"math"
	"reflect"
	"strings"
	"testing"

	"rolodex/api"
	"rolodex/crdt"
)

func event(n uint64) api.Event {
	return api.Event{Dot: api.Dot{Dev: 1, N: n}, Op: api.Set, Contact: "c", Field: "f", Value: "v", Kills: []api.Dot{{Dev: 2, N: 3}}}
}

func events(n int) []api.Event {
	var l []api.Event
	for i := range n {
		l = append(l, event(uint64(i+1)))
	}
	return l
}

func names(n int) []string {
	var l []string
	for i := range n {
		l = append(l, strings.Repeat(string("0123456789abcdef"[i%16]), 64))
	}
	return l
}

// kind is the two calls of a kind of message, for any message.
type kind struct {
	encode func(any) ([]byte, api.Errno)
	decode func([]byte) (any, api.Errno)
}

func of[M any](encode func(M) ([]byte, api.Errno), decode func([]byte) (M, api.Errno)) kind {
	return kind{func(m any) ([]byte, api.Errno) { return encode(m.(M)) }, func(b []byte) (any, api.Errno) {
		m, e := decode(b)
		return m, e
	}}
}

func kindOf(m any) kind {
	switch m.(type) {
	case Push:
		return of(EncodePush, DecodePush)
	case PushAck:
		return of(EncodePushAck, DecodePushAck)
	case Pull:
		return of(EncodePull, DecodePull)
	case PullAck:
		return of(EncodePullAck, DecodePullAck)
	case Have:
		return of(EncodeHave, DecodeHave)
	case HaveAck:
		return of(EncodeHaveAck, DecodeHaveAck)
	case Resync:
		return of(EncodeResync, DecodeResync)
	}
	return of(EncodeResyncAck, DecodeResyncAck)
}

const most = uint64(1 << 40)

func right() []any {
	return []any{
		Push{}, Push{Epoch: most, Events: events(8)}, Push{Events: events(1)}, PushAck{}, PushAck{Upto: most}, Pull{}, Pull{Epoch: most, Cursor: most, Most: 1000}, Pull{Epoch: 1, Cursor: 300, Most: 8},
		PullAck{}, PullAck{Next: most, More: true, Events: events(8)}, PullAck{More: true}, Have{}, Have{Names: names(100)}, HaveAck{}, HaveAck{Want: names(100)}, HaveAck{Want: names(1)},
		Resync{}, Resync{Epoch: most, Upto: most}, ResyncAck{State: []byte{}}, ResyncAck{Epoch: most, Cursor: most, State: make([]byte, api.MaxBody-100)}, ResyncAck{Epoch: 1, State: []byte("x")},
	}
}

func wrong() []any {
	bad := event(0)
	return []any{
		Push{Epoch: most + 1}, Push{Events: events(9)}, Push{Events: []api.Event{bad}}, Push{Events: []api.Event{event(1), {}}}, PushAck{Upto: most + 1}, PushAck{Upto: math.MaxUint64}, Pull{Epoch: most + 1}, Pull{Cursor: most + 1}, Pull{Most: -1}, Pull{Most: 1001}, Pull{Most: math.MinInt},
		PullAck{Next: most + 1}, PullAck{Events: events(9)}, PullAck{Events: []api.Event{bad}}, Have{Names: names(101)}, Have{Names: []string{""}}, Have{Names: []string{strings.Repeat("A", 64)}}, Have{Names: []string{strings.Repeat("a", 63)}},
		HaveAck{Want: names(101)}, HaveAck{Want: []string{strings.Repeat("g", 64)}}, HaveAck{Want: []string{strings.Repeat("a", 65)}}, Resync{Epoch: most + 1}, Resync{Upto: most + 1}, ResyncAck{Epoch: most + 1}, ResyncAck{Cursor: most + 1}, ResyncAck{State: make([]byte, api.MaxBody-99)},
	}
}

func TestExamples(t *testing.T) {
	if b, e := EncodePushAck(PushAck{5}); e != api.OK || !bytes.Equal(b, []byte{5}) {
		t.Errorf("%v", b)
	}
	if b, e := EncodePull(Pull{1, 300, 8}); e != api.OK || !bytes.Equal(b, []byte{1, 172, 2, 8}) {
		t.Errorf("%v", b)
	}
	if m, e := DecodePull([]byte{1, 172}); e != api.EFORM || m != (Pull{}) {
		t.Error(e)
	}
}

func TestP19_1Forms(t *testing.T) {
	x, _ := crdt.EncodeEvent(event(7))
	text := append([]byte{byte(len(x))}, x...)
	name := names(1)[0]
	for _, c := range []struct {
		m    any
		want []byte
	}{
		{Push{Epoch: 300, Events: []api.Event{event(7)}}, append([]byte{172, 2, 1}, text...)}, {PullAck{Next: 5, More: true, Events: []api.Event{event(7)}}, append([]byte{5, 1, 1}, text...)}, {PullAck{}, []byte{0, 0, 0}},
		{Have{Names: []string{name}}, append([]byte{1, 64}, name...)}, {HaveAck{Want: []string{name}}, append([]byte{1, 64}, name...)}, {Resync{3, 4}, []byte{3, 4}}, {ResyncAck{1, 2, []byte("xy")}, []byte{1, 2, 2, 'x', 'y'}},
	} {
		if b, e := kindOf(c.m).encode(c.m); e != api.OK || !bytes.Equal(b, c.want) {
			t.Errorf("%v: %v", c.m, b)
		}
	}
}

func TestP19_2Refused(t *testing.T) {
	for _, m := range wrong() {
		if b, e := kindOf(m).encode(m); b != nil || e != api.EARG {
			t.Errorf("%.60v: %v", m, e)
		}
	}
	long := []byte{129, 128, 128, 128, 128, 32}
	for _, c := range []struct {
		m any
		b []byte
	}{
		{PushAck{}, long}, {PushAck{}, []byte{128, 0}}, {Push{}, []byte{0, 9}}, {Push{}, []byte{0, 1, 0}}, {Push{}, []byte{0, 1, 1, 5}}, {Pull{}, []byte{0, 0, 233, 7}}, {PullAck{}, []byte{0, 2, 0}}, {PullAck{}, []byte{0, 128, 0, 0}},
		{Have{}, []byte{1, 1, 'a'}}, {Have{}, append([]byte{1, 64}, strings.Repeat("A", 64)...)}, {Have{}, []byte{101}}, {HaveAck{}, []byte{1, 0}}, {Resync{}, append([]byte{0}, long...)}, {ResyncAck{}, append([]byte{0, 0, 157, 127}, make([]byte, api.MaxBody-99)...)},
	} {
		if m, e := kindOf(c.m).decode(c.b); e != api.EFORM || !reflect.DeepEqual(m, c.m) {
			t.Errorf("%T of %.20v: %v", c.m, c.b, e)
		}
	}
}

func TestP19_3WhatIsLaidIsRead(t *testing.T) {
	seen := map[string]any{}
	for _, m := range right() {
		k := kindOf(m)
		b, e := k.encode(m)
		if e != api.OK {
			t.Fatalf("%.60v: %v", m, e)
		}
		if got, e := k.decode(b); e != api.OK || !reflect.DeepEqual(got, m) {
			t.Errorf("%.60v: %v", m, e)
		}
		for i := 0; i < len(b); i += 1 + len(b)/100 {
			if got, e := k.decode(b[:i]); e != api.EFORM || !reflect.ValueOf(got).IsZero() {
				t.Errorf("%T cut to %d", m, i)
			}
		}
		if _, e := k.decode(append(b, 0)); e != api.EFORM {
			t.Errorf("%T with a byte behind", m)
		}
		key := reflect.TypeOf(m).Name() + string(b)
		if _, ok := seen[key]; ok {
			t.Errorf("%.60v has the bytes of another one", m)
		}
		seen[key] = m
	}
}

func TestTheGreatestPushIsABody(t *testing.T) {
	x := event(1 << 40)
	x.Contact, x.Field, x.Value, x.Kills = strings.Repeat("c", api.MaxField), strings.Repeat("f", api.MaxField), strings.Repeat("v", api.MaxText), nil
	for i := range uint64(64) {
		x.Kills = append(x.Kills, api.Dot{Dev: 15, N: 1<<40 - 64 + i})
	}
	b, e := EncodePush(Push{most, []api.Event{x, x, x, x, x, x, x, x}})
	if e != api.OK || len(b) > api.MaxBody {
		t.Errorf("%d bytes, %v", len(b), e)
	}
}
