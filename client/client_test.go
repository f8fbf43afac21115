package client

import (
	"bytes"
	"fmt"
	"math"
	"math/rand"
	"reflect"
	"slices"
	"strconv"
	"strings"
	"testing"

	"rolodex/api"
	"rolodex/blobs"
	"rolodex/crdt"
	"rolodex/frame"
	"rolodex/httpwire"
	"rolodex/proto"
	"rolodex/server"
	"rolodex/sha"
	"rolodex/simdisk"
	"rolodex/view"
)

var plain = Options{Dev: 1, Timeout: 10, Base: 4, Most: 100}

func disk(t *testing.T, quota int) *simdisk.Disk {
	t.Helper()
	d, e := simdisk.New(quota)
	if e != api.OK {
		t.Fatal(e)
	}
	return d
}

func open(t *testing.T, d *simdisk.Disk) *Client {
	t.Helper()
	c, e := Open(d, plain)
	if e != api.OK {
		t.Fatal(e)
	}
	return c
}

// ready is a device with a token on a new disk.
func ready(t *testing.T) (*Client, *simdisk.Disk) {
	d := disk(t, 1<<20)
	c := open(t, d)
	c.Token("tok")
	return c, d
}

func set(t *testing.T, c *Client, contact, field, value string) api.Event {
	t.Helper()
	e, err := c.Set(contact, field, value)
	if err != api.OK {
		t.Fatal(err)
	}
	return e
}

// next tells the request that is sent now.
func next(t *testing.T, c *Client, now int64) httpwire.Request {
	t.Helper()
	b, ok := c.Next(now, 0)
	r, n, e := httpwire.ReadRequest(b)
	if !ok || e != api.OK || n != len(b) || !c.Out() {
		t.Fatalf("no request: %v %v", ok, e)
	}
	if token, _ := r.Get("Authorization"); token != "Bearer tok" {
		t.Fatalf("token %q", token)
	}
	return r
}

func want(t *testing.T, r httpwire.Request, method, path string) {
	t.Helper()
	if r.Method != method || r.Path != path {
		t.Fatalf("%s %s, want %s %s", r.Method, r.Path, method, path)
	}
}

func answer(r httpwire.Request, code int, body []byte) []byte {
	id, _ := r.Get("X-Id")
	b, _ := httpwire.PrintResponse(httpwire.Response{Code: code, Headers: []httpwire.Header{{Name: "X-Id", Value: id}}, Body: body})
	return b
}

func handle(t *testing.T, c *Client, r httpwire.Request, code int, body []byte) {
	t.Helper()
	if !c.Handle(answer(r, code, body), 0, 0) || c.Out() {
		t.Fatal("the answer is not taken")
	}
}

func laid[M any](encode func(M) ([]byte, api.Errno), m M) []byte {
	b, e := encode(m)
	if e != api.OK {
		panic(e)
	}
	return b
}

func event(dev int, n uint64, contact, field, value string, kills ...api.Dot) api.Event {
	return api.Event{Dot: api.Dot{Dev: dev, N: n}, Op: api.Set, Contact: contact, Field: field, Value: value, Kills: kills}
}

// kept is all that a device keeps on its disk.
func kept(c *Client) string {
	return fmt.Sprintf("%x %v %q %q %d %d %d", c.State().Encode(), c.Outbox(), c.Uploads(), c.Blobs(), c.Cursor(), c.Epoch(), c.Counter())
}

func TestExample(t *testing.T) {
	c := open(t, disk(t, 100000))
	if e := set(t, c, "c", "fn", "Ann"); !reflect.DeepEqual(e, event(1, 1, "c", "fn", "Ann")) {
		t.Errorf("%v", e)
	}
	if b, ok := c.Next(0, 0); b != nil || ok || c.Out() {
		t.Error("without a token")
	}
	c.Token("tok")
	r := next(t, c, 0)
	want(t, r, "POST", "/push")
	if id, _ := r.Get("X-Id"); id != strconv.Itoa(1<<20+1) {
		t.Errorf("X-Id %s", id)
	}
	if b, ok := c.Next(5, 0); b != nil || ok || !c.Out() {
		t.Error("one is out")
	}
	handle(t, c, r, 200, []byte{1})
	if len(c.Outbox()) != 0 {
		t.Error("the outbox is empty")
	}
	want(t, next(t, c, 5), "POST", "/pull")
}

func TestP22_1Open(t *testing.T) {
	d := disk(t, 100000)
	for _, o := range []Options{{-1, 1, 1, 1}, {16, 1, 1, 1}, {0, 0, 1, 1}, {0, 1<<40 + 1, 1, 1}, {0, 1, 0, 1}, {0, 1, 2, 1}, {0, 1, 1, 1<<40 + 1}, {0, math.MinInt64, 1, 1}} {
		if c, e := Open(d, o); c != nil || e != api.EARG || len(d.List()) != 0 {
			t.Errorf("%v: %v", o, e)
		}
	}
	if c, e := Open(disk(t, 0), plain); c != nil || e != api.EFULL {
		t.Error("how often it was opened can't be kept")
	}
	for _, timeout := range []int64{1, 1 << 40} {
		if _, e := Open(disk(t, 1000), Options{15, timeout, 1 << 40, 1 << 40}); e != api.OK {
			t.Errorf("timeout %d: %v", timeout, e)
		}
	}
	c := open(t, d)
	if c.Idle() || c.Out() || c.Counter() != 0 || c.Cursor() != 0 || c.Epoch() != 0 || len(c.Outbox()) != 0 || len(c.Uploads()) != 0 || len(c.Blobs()) != 0 || !c.State().Same(crdt.New()) {
		t.Error("a new device is asked to poll, and has nothing")
	}
	for i := range 3 {
		d.Crash(nil)
		c = open(t, d)
		c.Token("tok")
		r := next(t, c, 0)
		if id, _ := r.Get("X-Id"); id != strconv.Itoa((i+2)<<20+1) {
			t.Errorf("X-Id %s", id)
		}
		handle(t, c, r, 404, nil)
		r = next(t, c, 5)
		if id, _ := r.Get("X-Id"); id != strconv.Itoa((i+2)<<20+2) {
			t.Errorf("X-Id %s", id)
		}
		if o := open(t, d); o.Out() {
			t.Error("out behind an Open")
		} else if _, ok := o.Next(0, 0); ok {
			t.Error("the token is forgotten")
		}
		d.Crash(nil)
		d = disk(t, 100000)
		for range i + 2 {
			open(t, d)
		}
	}
}

func TestP22_2Edits(t *testing.T) {
	c, d := ready(t)
	a := set(t, c, "c", "f", "1")
	b := set(t, c, "c", "f", "2")
	if !reflect.DeepEqual(b, event(1, 2, "c", "f", "2", a.Dot)) {
		t.Errorf("%v", b)
	}
	drop, err := c.Drop("c", "")
	if err != api.OK || !reflect.DeepEqual(drop, api.Event{Dot: api.Dot{Dev: 1, N: 3}, Op: api.Drop, Contact: "c", Kills: []api.Dot{b.Dot}}) {
		t.Errorf("%v", drop)
	}
	before := kept(c)
	if e, err := c.Drop("c", ""); err != api.ENONE || !reflect.DeepEqual(e, api.Event{}) {
		t.Error("nothing to drop")
	}
	if e, err := c.Set("", "f", ""); err != api.EARG || !reflect.DeepEqual(e, api.Event{}) {
		t.Error("no contact")
	}
	if _, err := c.Set("c", "f", strings.Repeat("v", api.MaxText+1)); err != api.EARG {
		t.Error("a value that is too long")
	}
	if _, err := c.SetPhoto("c", make([]byte, api.MaxPhoto+1)); err != api.ELIMIT {
		t.Error("a photo that is too long")
	}
	if _, err := c.SetPhoto("", make([]byte, api.MaxPhoto+1)); err != api.ELIMIT {
		t.Error("blobs' Cut's error is named first")
	}
	if _, err := c.SetPhoto("", nil); err != api.EARG {
		t.Error("a photo of no contact")
	}
	if kept(c) != before || !reflect.DeepEqual(c.Outbox(), []api.Event{a, b, drop}) || c.Counter() != 3 {
		t.Error("refused edits change something")
	}
	c.Outbox()[1].Kills[0].N = 9
	d.Quota(d.Stat().Bytes + 5)
	if _, err := c.Set("c", "f", "1"); err != api.EFULL || kept(c) != before {
		t.Error("a full disk")
	}
	if _, err := c.SetPhoto("c", nil); err != api.EFULL || kept(c) != before {
		t.Error("a full disk")
	}
	d.Quota(1 << 20)
	if e := set(t, c, "c", "f", "1"); e.Dot.N != 4 {
		t.Error("the number is not used up")
	}
	if l, e := c.Get("c"); e != api.OK || !slices.Equal(l, []view.Field{{Name: "f", Value: "1", Values: 1}}) || !slices.Equal(c.List(), []view.Line{{Contact: "c", Title: "c", Fields: 1}}) {
		t.Error("Get, List")
	}
}

func TestP22_2Photos(t *testing.T) {
	c, d := ready(t)
	if _, e := c.Photo("c"); e != api.ENONE {
		t.Error("no contact")
	}
	photo := []byte(strings.Repeat("p", 64) + strings.Repeat("q", 64) + "r")
	name, manifest, chunks, _ := blobs.Cut(photo)
	e, err := c.SetPhoto("c", photo)
	clear(photo)
	if err != api.OK || !reflect.DeepEqual(e, event(1, 1, "c", "photo", name)) {
		t.Errorf("%v", e)
	}
	all := []string{name}
	for _, b := range chunks {
		all = append(all, sha.Hex(sha.Sum(b)))
	}
	slices.Sort(all)
	for range 2 {
		if p, e := c.Photo("c"); e != api.OK || !bytes.Equal(p, slices.Concat(chunks...)) || !slices.Equal(c.Blobs(), all) || !slices.Equal(c.Uploads(), all) {
			t.Errorf("the photo: %v", e)
		}
		d.Crash(nil)
		c = open(t, d)
	}
	set(t, c, "d", "photo", "x")
	if _, e := c.Photo("d"); e != api.ENONE {
		t.Error("a photo that is not there")
	}
	if _, e := c.SetPhoto("e", nil); e != api.OK {
		t.Error(e)
	}
	if p, e := c.Photo("e"); len(p) != 0 || e != api.OK || len(c.Uploads()) != 5 {
		t.Error("an empty photo")
	}
	set(t, c, "f", "photo", all[0])
	_ = manifest
}

func TestP22_2SetOfAPhotosName(t *testing.T) {
	c, _ := ready(t)
	e, _ := c.SetPhoto("c", []byte("photo"))
	c.wanted = map[string]struct{}{}
	r := next(t, c, 0)
	handle(t, c, r, 200, []byte{1})
	r = next(t, c, 0)
	want(t, r, "POST", "/have")
	handle(t, c, r, 200, laid(proto.EncodeHaveAck, proto.HaveAck{}))
	if len(c.Uploads()) != 0 {
		t.Error("the server has them")
	}
	set(t, c, "d", "Photo", e.Value)
	if len(c.Uploads()) != 0 {
		t.Error("another field")
	}
	set(t, c, "d", "photo", c.Blobs()[0])
	set(t, c, "d", "photo", c.Blobs()[1])
	if len(c.Uploads()) != 2 {
		t.Errorf("%q", c.Uploads())
	}
}

func TestP22_3TimeoutAndTimer(t *testing.T) {
	c, _ := ready(t)
	first := next(t, c, 100)
	if _, ok := c.Next(109, 0); ok || !c.Out() {
		t.Error("it is waited for")
	}
	if _, ok := c.Next(50, 0); ok || !c.Out() {
		t.Error("a clock that goes back")
	}
	if _, ok := c.Next(110, 1); ok || c.Out() {
		t.Error("it has failed")
	}
	if c.Handle(answer(first, 200, []byte{0, 0, 0}), 110, 0) {
		t.Error("an answer that comes too late")
	}
	if _, ok := c.Next(112, 0); ok {
		t.Error("the timer is not ready")
	}
	r := next(t, c, 113)
	if c.Handle(answer(first, 200, []byte{0, 0, 0}), 113, 0) || !c.Out() {
		t.Error("an answer of another request")
	}
	if !c.Handle(answer(r, 500, nil), 113, 4) || c.Out() {
		t.Error("a failure")
	}
	if _, ok := c.Next(120, 0); ok {
		t.Error("the second failure: 4 + 4")
	}
	r = next(t, c, 121)
	if !c.Handle(answer(r, 200, []byte{0, 0, 0}), 121, 0) || !c.Idle() {
		t.Error("well")
	}
	if _, ok := c.Next(121, 0); ok {
		t.Error("there is nothing to do")
	}
	c.Poll()
	r = next(t, c, 121)
	if !c.Handle(answer(r, 503, nil), 121, 0) {
		t.Error("a failure")
	}
	next(t, c, 123)
}

func TestP22_3Tokens(t *testing.T) {
	c := open(t, disk(t, 1000))
	for _, token := range []string{"", "a\r\nb", "\x80", "a ", "ä", strings.Repeat("t", 3000)} {
		c.Token(token)
		if b, ok := c.Next(0, 0); ok || b != nil || c.Out() {
			t.Errorf("%.9q can stand in a header", token)
		}
	}
	c.Token("tok")
	r := next(t, c, 0)
	if id, _ := r.Get("X-Id"); id != strconv.Itoa(1<<20+1) {
		t.Error("requests that were not sent count")
	}
	handle(t, c, r, 401, nil)
	if _, ok := c.Next(100, 0); ok {
		t.Error("the token is forgotten")
	}
	c.Token("tok")
	if _, ok := c.Next(1, 0); ok {
		t.Error("the timer failed, too")
	}
	want(t, next(t, c, 2), "POST", "/pull")
}

func TestP22_3Order(t *testing.T) {
	c, _ := ready(t)
	for i := range 10 {
		set(t, c, "c", fmt.Sprint("f", i), "v")
	}
	c.SetPhoto("c", []byte(strings.Repeat("p", 65)))
	r := next(t, c, 0)
	want(t, r, "POST", "/push")
	if m, _ := proto.DecodePush(r.Body); m.Epoch != 0 || !reflect.DeepEqual(m.Events, c.Outbox()[:8]) {
		t.Errorf("%v", m)
	}
	handle(t, c, r, 409, nil)
	r = next(t, c, 0)
	want(t, r, "POST", "/resync")
	if m, _ := proto.DecodeResync(r.Body); m != (proto.Resync{Upto: 11}) {
		t.Errorf("%v", m)
	}
	other := crdt.New()
	for _, e := range c.Outbox()[:9] {
		other.Apply(e)
	}
	handle(t, c, r, 200, laid(proto.EncodeResyncAck, proto.ResyncAck{Epoch: 3, Cursor: 9, State: other.Encode()}))
	r = next(t, c, 0)
	want(t, r, "POST", "/push")
	if m, _ := proto.DecodePush(r.Body); m.Epoch != 3 || len(m.Events) != 2 || m.Events[0].Dot.N != 12 {
		t.Errorf("%v", m)
	}
	handle(t, c, r, 200, laid(proto.EncodePushAck, proto.PushAck{Upto: 12}))
	r = next(t, c, 0)
	want(t, r, "POST", "/push")
	handle(t, c, r, 200, laid(proto.EncodePushAck, proto.PushAck{Upto: 13}))
	uploads := c.Uploads()
	r = next(t, c, 0)
	want(t, r, "POST", "/have")
	if m, _ := proto.DecodeHave(r.Body); !slices.Equal(m.Names, uploads) || len(uploads) != 3 {
		t.Errorf("%v", m)
	}
	stray := strings.Repeat("0", 64)
	handle(t, c, r, 200, laid(proto.EncodeHaveAck, proto.HaveAck{Want: []string{uploads[2], uploads[0], stray}}))
	if !slices.Equal(c.Uploads(), []string{uploads[0], uploads[2]}) {
		t.Errorf("%q", c.Uploads())
	}
	for _, name := range []string{uploads[0], uploads[2]} {
		r = next(t, c, 0)
		want(t, r, "PUT", "/blob")
		if sha.Hex(sha.Sum(r.Body)) != name {
			t.Error("another blob")
		}
		handle(t, c, r, 200, []byte(name))
	}
	r = next(t, c, 0)
	want(t, r, "POST", "/pull")
	if m, _ := proto.DecodePull(r.Body); m != (proto.Pull{Epoch: 3, Cursor: 9, Most: 8}) {
		t.Errorf("%v", m)
	}
	missing := []string{strings.Repeat("1", 64), strings.Repeat("2", 64)}
	events := []api.Event{event(2, 1, "a", "photo", missing[0]), event(2, 2, "b", "photo", missing[1]), event(2, 3, "c", "photo", "x"), event(2, 4, "a", "phot", stray)}
	handle(t, c, r, 200, laid(proto.EncodePullAck, proto.PullAck{Next: 13, More: true, Events: events}))
	r = next(t, c, 0)
	want(t, r, "POST", "/pull")
	handle(t, c, r, 200, laid(proto.EncodePullAck, proto.PullAck{Next: 13}))
	for _, name := range missing {
		r = next(t, c, 0)
		want(t, r, "GET", "/blob/"+name)
		handle(t, c, r, 404, nil)
	}
	if _, ok := c.Next(0, 0); ok || !c.Idle() {
		t.Error("there is nothing to do any more")
	}
	c.Poll()
	r = next(t, c, 0)
	want(t, r, "POST", "/pull")
	handle(t, c, r, 200, laid(proto.EncodePullAck, proto.PullAck{Next: 13}))
	want(t, next(t, c, 0), "GET", "/blob/"+missing[0])
}

func TestP22_3ManyUploads(t *testing.T) {
	c, _ := ready(t)
	for i := range 70 {
		if _, e := c.SetPhoto(fmt.Sprint("c", i), []byte(fmt.Sprint(i, strings.Repeat("p", 130)))); e != api.OK {
			t.Fatal(e)
		}
	}
	for len(c.Outbox()) > 0 {
		r := next(t, c, 0)
		m, _ := proto.DecodePush(r.Body)
		handle(t, c, r, 200, laid(proto.EncodePushAck, proto.PushAck{Upto: m.Events[len(m.Events)-1].Dot.N}))
	}
	all := c.Uploads()
	r := next(t, c, 0)
	if m, _ := proto.DecodeHave(r.Body); !slices.Equal(m.Names, all[:100]) {
		t.Errorf("%d names", len(m.Names))
	}
	handle(t, c, r, 200, laid(proto.EncodeHaveAck, proto.HaveAck{Want: all[10:100]}))
	r = next(t, c, 0)
	if m, _ := proto.DecodeHave(r.Body); !slices.Equal(m.Names, all[100:]) {
		t.Errorf("%d names", len(m.Names))
	}
	handle(t, c, r, 200, laid(proto.EncodeHaveAck, proto.HaveAck{}))
	if !slices.Equal(c.Uploads(), all[10:100]) {
		t.Error("those that are wanted are left")
	}
}

func TestP22_4WhatIsNoAnswer(t *testing.T) {
	c, _ := ready(t)
	r := next(t, c, 0)
	good := answer(r, 200, []byte{0, 0, 0})
	id, _ := r.Get("X-Id")
	none, _ := httpwire.PrintResponse(httpwire.Response{Code: 200, Body: []byte{0, 0, 0}})
	other, _ := httpwire.PrintResponse(httpwire.Response{Code: 200, Headers: []httpwire.Header{{Name: "X-Id", Value: id + "0"}, {Name: "X-Id", Value: id}}, Body: []byte{0, 0, 0}})
	for i, b := range [][]byte{nil, []byte("x\r\n"), good[:len(good)-1], append(good[:len(good):len(good)], 'x'), none, other} {
		if c.Handle(b, 0, 0) || !c.Out() {
			t.Errorf("%d is an answer", i)
		}
	}
	if !c.Handle(good, 0, 0) || c.Handle(good, 0, 0) {
		t.Error("an answer counts once")
	}
}

func TestP22_4BadBodies(t *testing.T) {
	name := strings.Repeat("1", 64)
	for i, body := range [][]byte{nil, {0}, []byte("nonsense"), bytes.Repeat([]byte{255}, 100)} {
		for _, path := range []string{"/push", "/pull", "/have", "/blob", "/blob/", "/resync"} {
			c, _ := ready(t)
			switch path {
			case "/push":
				set(t, c, "c", "f", "v")
			case "/have", "/blob":
				c.SetPhoto("c", []byte("p"))
				handle(t, c, next(t, c, 0), 200, []byte{1})
				if path == "/blob" {
					handle(t, c, next(t, c, 0), 200, laid(proto.EncodeHaveAck, proto.HaveAck{Want: c.Uploads()}))
				}
			case "/blob/":
				handle(t, c, next(t, c, 0), 200, laid(proto.EncodePullAck, proto.PullAck{Next: 1, Events: []api.Event{event(2, 1, "a", "photo", name)}}))
			case "/resync":
				handle(t, c, next(t, c, 0), 409, nil)
			}
			before := kept(c)
			r := next(t, c, 0)
			if !strings.HasPrefix(r.Path, path) {
				t.Fatalf("%s, want %s", r.Path, path)
			}
			handle(t, c, r, 200, body)
			isEmptyAck := len(body) == 1 && (path == "/push" || path == "/have")
			if _, ok := c.Next(1, 0); ok != isEmptyAck || !isEmptyAck && kept(c) != before {
				t.Errorf("%s, body %d: %v", path, i, ok)
			}
		}
	}
}

func TestP22_4Pull(t *testing.T) {
	c, d := ready(t)
	mine := set(t, c, "c", "f", "mine")
	handle(t, c, next(t, c, 0), 200, []byte{1})
	r := next(t, c, 0)
	handle(t, c, r, 200, laid(proto.EncodePullAck, proto.PullAck{Next: 5, Events: []api.Event{mine, event(2, 1, "c", "f", "other", mine.Dot)}}))
	for range 2 {
		if l, _ := c.Get("c"); len(l) != 1 || l[0].Value != "other" || c.Cursor() != 5 {
			t.Errorf("%v", l)
		}
		d.Crash(nil)
		c = open(t, d)
	}
	c.Token("tok")
	c.Poll()
	r = next(t, c, 0)
	c.Poll()
	handle(t, c, r, 200, laid(proto.EncodePullAck, proto.PullAck{Next: 5}))
	if !c.Idle() {
		t.Error("a pull that is out already ends the asking")
	}
	var many []api.Event
	for i := range uint64(8) {
		e := event(3, i+1, "x", "f", "v")
		for k := range uint64(64) {
			e.Kills = append(e.Kills, api.Dot{Dev: 9, N: 10 + 2*(64*i+k)})
		}
		many = append(many, e)
	}
	for i := range uint64(9) {
		c.Poll()
		r = next(t, c, 0)
		before := kept(c)
		handle(t, c, r, 200, laid(proto.EncodePullAck, proto.PullAck{Next: 6 + i, Events: many}))
		if (kept(c) == before) != (i == 8) {
			t.Errorf("round %d: events that the state does not take", i)
		}
		for k := range many {
			many[k].Dot.N += 8
			for j := range many[k].Kills {
				many[k].Kills[j].N += 1024
			}
		}
	}
}

func TestP22_4FullDisk(t *testing.T) {
	name := strings.Repeat("1", 64)
	c, d := ready(t)
	c.SetPhoto("c", []byte("p"))
	full := func(code int, body []byte) {
		t.Helper()
		before, r := kept(c), next(t, c, 0)
		d.Quota(0)
		handle(t, c, r, code, body)
		if _, ok := c.Next(1, 0); ok || kept(c) != before {
			t.Errorf("%s: it can't be written", r.Path)
		}
		d.Quota(1 << 20)
		c.timer.Well(0)
		handle(t, c, next(t, c, 0), code, body)
		if kept(c) == before {
			t.Errorf("%s: then it can", r.Path)
		}
	}
	full(200, []byte{1})
	uploads := c.Uploads()
	full(200, laid(proto.EncodeHaveAck, proto.HaveAck{Want: uploads[:1]}))
	full(200, []byte(uploads[0]))
	full(200, laid(proto.EncodePullAck, proto.PullAck{Next: 1, Events: []api.Event{event(2, 1, "a", "photo", sha.Hex(sha.Sum([]byte("m")))), event(2, 2, "b", "photo", name)}}))
	full(200, []byte("m"))
	handle(t, c, next(t, c, 0), 409, nil)
	full(200, laid(proto.EncodeResyncAck, proto.ResyncAck{Epoch: 1, Cursor: 2, State: crdt.New().Encode()}))
}

func TestP22_5Resync(t *testing.T) {
	c, d := ready(t)
	set(t, c, "a", "f", "1")
	set(t, c, "a", "f", "2")
	set(t, c, "b", "f", "3")
	c.Drop("b", "")
	c.Drop("a", "f")
	c.SetPhoto("p", []byte("photo"))
	photo := c.Outbox()[5]
	handle(t, c, next(t, c, 0), 409, nil)
	state := crdt.New()
	state.Apply(c.Outbox()[0])
	state.Apply(event(2, 1, "b", "f", "theirs"))
	ack := laid(proto.EncodeResyncAck, proto.ResyncAck{Epoch: 4, Cursor: 77, State: state.Encode()})
	r := next(t, c, 0)
	set(t, c, "z", "f", "late")
	before := kept(c)
	handle(t, c, r, 200, ack)
	if kept(c) != before || c.Idle() {
		t.Error("an own event was made since")
	}
	r = next(t, c, 0)
	if m, _ := proto.DecodeResync(r.Body); r.Path != "/resync" || m.Upto != 7 {
		t.Error("it must resync still")
	}
	handle(t, c, r, 200, ack)
	wantOutbox := []api.Event{
		event(1, 8, "a", "f", "2", api.Dot{Dev: 1, N: 1}), event(1, 9, "b", "f", "3", api.Dot{Dev: 2, N: 1}),
		{Dot: api.Dot{Dev: 1, N: 10}, Op: api.Drop, Contact: "b", Kills: []api.Dot{{Dev: 1, N: 9}}},
		{Dot: api.Dot{Dev: 1, N: 11}, Op: api.Drop, Contact: "a", Field: "f", Kills: []api.Dot{{Dev: 1, N: 8}}},
		event(1, 12, "p", "photo", photo.Value), event(1, 13, "z", "f", "late"),
	}
	for range 2 {
		if !reflect.DeepEqual(c.Outbox(), wantOutbox) || c.Epoch() != 4 || c.Cursor() != 77 || c.Counter() != 13 || len(c.Uploads()) != 2 {
			t.Errorf("%v", c.Outbox())
		}
		for _, e := range wantOutbox {
			state.Apply(e)
		}
		if !c.State().Same(state) {
			t.Error("the state")
		}
		before = kept(c)
		d.Crash(nil)
		c = open(t, d)
		if kept(c) != before {
			t.Error("behind a crash")
		}
	}
	c.Token("tok")
	want(t, next(t, c, 0), "POST", "/push")
}

func TestP22_5LeftOut(t *testing.T) {
	c, _ := ready(t)
	set(t, c, "a", "f", "1")
	handle(t, c, next(t, c, 0), 200, []byte{1})
	c.Drop("a", "")
	set(t, c, "b", "f", "1")
	handle(t, c, next(t, c, 0), 409, nil)
	r := next(t, c, 0)
	bad := laid(proto.EncodeResyncAck, proto.ResyncAck{State: []byte("no state")})
	before := kept(c)
	handle(t, c, r, 200, bad)
	if _, ok := c.Next(1, 0); ok || kept(c) != before {
		t.Error("what is no state fails")
	}
	handle(t, c, next(t, c, 2), 200, laid(proto.EncodeResyncAck, proto.ResyncAck{Epoch: 1, State: crdt.New().Encode()}))
	if !reflect.DeepEqual(c.Outbox(), []api.Event{event(1, 4, "b", "f", "1")}) {
		t.Errorf("a Drop of nothing is left out: %v", c.Outbox())
	}
	handle(t, c, next(t, c, 2), 200, []byte{4})
	r = next(t, c, 2)
	want(t, r, "POST", "/pull")
	handle(t, c, r, 409, nil)
	if c.Idle() {
		t.Error("it must resync")
	}
	want(t, next(t, c, 2), "POST", "/resync")
}

func TestManyGapsEndInALimit(t *testing.T) {
	c, _ := ready(t)
	set(t, c, "a", "f", "1")
	handle(t, c, next(t, c, 0), 409, nil)
	handle(t, c, next(t, c, 0), 200, laid(proto.EncodeResyncAck, proto.ResyncAck{Epoch: 1, State: crdt.New().Encode()}))
	for i := range 4095 {
		set(t, c, "a", "f", fmt.Sprint(i))
	}
	before := kept(c)
	if _, e := c.Set("a", "f", "x"); e != api.ELIMIT || kept(c) != before {
		t.Error("one past the limit")
	}
}

// Whatever happens, behind a crash a device has all that it had, as long as all its calls were answered.
func TestP22_7Crashes(t *testing.T) {
	x := rand.New(rand.NewSource(12))
	for round := range 40 {
		serverDisk := disk(t, 1<<24)
		s, _ := server.Open(serverDisk, server.Options{Key: []byte("k"), Lasts: 1 << 30, Stale: 300, Mem: 1024})
		quota := 3000 + x.Intn(60000)
		disks := []*simdisk.Disk{disk(t, quota), disk(t, 1<<22)}
		clients := make([]*Client, 2)
		now := int64(0)
		start := func(i int) {
			for {
				c, e := Open(disks[i], Options{Dev: i, Timeout: 10, Base: 2, Most: 8})
				if e == api.OK {
					clients[i] = c
					break
				}
				quota += 1000
				disks[i].Quota(quota)
			}
			token, _ := s.Register(i, now)
			clients[i].Token(token)
		}
		start(0)
		start(1)
		dots := map[api.Dot]string{}
		note := func(e api.Event) {
			text := fmt.Sprintf("%v", e)
			if old, ok := dots[e.Dot]; ok && old != text {
				t.Fatalf("a dot is given twice: %s, %s", old, text)
			}
			dots[e.Dot] = text
		}
		for range 250 {
			now += int64(x.Intn(6))
			i := x.Intn(2)
			c := clients[i]
			before := kept(c)
			var err api.Errno
			var e api.Event
			switch x.Intn(10) {
			case 0, 1:
				e, err = c.Set(fmt.Sprint("c", x.Intn(4)), fmt.Sprint("f", x.Intn(3)), strings.Repeat("v", x.Intn(200)))
			case 2:
				e, err = c.Drop(fmt.Sprint("c", x.Intn(4)), "")
			case 3:
				e, err = c.SetPhoto(fmt.Sprint("c", x.Intn(4)), bytes.Repeat([]byte{byte(x.Intn(9))}, x.Intn(300)))
			case 4:
				disks[i].Crash([]int{x.Intn(9), x.Intn(99), x.Intn(99), x.Intn(99), x.Intn(99)})
				start(i)
				if kept(clients[i]) != before {
					t.Fatalf("round %d: behind the crash\n%s\nahead\n%s", round, kept(clients[i]), before)
				}
			case 5:
				s.Collect(now)
				c.Poll()
			default:
				if b, ok := c.Next(now, uint64(x.Intn(9))); ok && x.Intn(9) > 0 {
					if b = s.Handle(b, now); x.Intn(9) > 0 {
						c.Handle(b, now, uint64(x.Intn(9)))
					}
				}
			}
			if err != api.OK && kept(c) != before {
				t.Fatalf("round %d: an error changes something", round)
			}
			if err == api.OK && e.Op != 0 {
				note(e)
			}
			for _, e := range clients[i].Outbox() {
				note(e)
			}
		}
		for range 2 {
			for i := range 2 {
				disks[i].Quota(1 << 24)
				now += 100
				token, _ := s.Register(i, now)
				c := clients[i]
				c.Token(token)
				c.Poll()
				for k := 0; !c.Idle(); k++ {
					now += 20
					b, ok := c.Next(now, 0)
					if ok {
						c.Handle(s.Handle(b, now), now, 0)
					}
					if k > 2000 {
						t.Fatalf("round %d: it does not come to an end", round)
					}
				}
			}
		}
		if !clients[0].State().Same(s.State()) || !clients[1].State().Same(s.State()) || len(clients[0].Outbox()) > 0 {
			t.Fatalf("round %d: they do not agree", round)
		}
	}
}

func TestTheLogIsCut(t *testing.T) {
	c, d := ready(t)
	for i := range 2000 {
		set(t, c, "c", "f", fmt.Sprint(i, strings.Repeat("v", 100)))
		if i%100 == 50 {
			for len(c.Outbox()) > 0 {
				handle(t, c, next(t, c, 0), 200, laid(proto.EncodePushAck, proto.PushAck{Upto: c.Outbox()[min(7, len(c.Outbox())-1)].Dot.N}))
			}
		}
	}
	if n := d.Stat().Bytes; n > 100000 {
		t.Errorf("%d bytes", n)
	}
	before := kept(c)
	d.Crash([]int{1})
	if c = open(t, d); kept(c) != before || c.Counter() != 2000 {
		t.Error("behind a crash")
	}
	b, _ := d.Read("device")
	b[len(b)/2]++
	d.Remove("device")
	d.Create("device")
	d.Append("device", b)
	if _, e := Open(d, plain); e != api.ECORRUPT {
		t.Error("a snapshot that was changed")
	}
}

func TestP22_6Looking(t *testing.T) {
	c, _ := ready(t)
	set(t, c, "c", "f", "v")
	set(t, c, "c", "f", "w")
	c.SetPhoto("c", []byte("photo"))
	before := kept(c)
	c.State().Apply(event(5, 1, "d", "f", "v"))
	c.Outbox()[1].Kills[0].N = 77
	c.Outbox()[0].Contact = "x"
	c.Uploads()[0] = "x"
	c.Blobs()[0] = "x"
	if p, _ := c.Photo("c"); string(p) != "photo" {
		t.Error("the photo")
	} else {
		p[0] = 'x'
	}
	if p, _ := c.Photo("c"); string(p) != "photo" || kept(c) != before || c.Idle() || c.Out() {
		t.Error("what is told is no copy")
	}
}

func TestP22_6Idle(t *testing.T) {
	c, _ := ready(t)
	r := next(t, c, 0)
	c.mustPull = false
	if c.Idle() {
		t.Error("a request is out")
	}
	handle(t, c, r, 200, laid(proto.EncodePullAck, proto.PullAck{Next: 1}))
	if !c.Idle() {
		t.Error("there is nothing to do")
	}
	c.Poll()
	name := strings.Repeat("1", 64)
	handle(t, c, next(t, c, 0), 200, laid(proto.EncodePullAck, proto.PullAck{Next: 2, Events: []api.Event{event(2, 1, "a", "photo", name)}}))
	if c.Idle() {
		t.Error("a blob is to be fetched")
	}
	handle(t, c, next(t, c, 0), 404, nil)
	e, _ := c.SetPhoto("c", []byte("photo"))
	if c.Idle() {
		t.Error("an outbox")
	}
	handle(t, c, next(t, c, 0), 200, []byte{1})
	if c.Idle() || len(c.Outbox()) != 0 {
		t.Error("uploads")
	}
	handle(t, c, next(t, c, 0), 200, laid(proto.EncodeHaveAck, proto.HaveAck{}))
	if !c.Idle() {
		t.Error("there is nothing to do any more")
	}
	set(t, c, "c", "f", e.Value)
	if c.Idle() || len(c.Uploads()) != 0 {
		t.Error("an outbox alone")
	}
}

// A crash when a snapshot is safe, but the log is not cut yet: what the log has of it already is passed over.
func TestP22_7CrashWithinASnapshot(t *testing.T) {
	c, d := ready(t)
	old := map[string][]byte{}
	for i := 0; !slices.Contains(d.List(), "device"); i++ {
		for _, name := range d.List() {
			old[name], _ = d.Read(name)
		}
		set(t, c, fmt.Sprint("c", i%3), "f", fmt.Sprint(i, strings.Repeat("v", 300)))
	}
	set(t, c, "z", "f", "behind it")
	again := disk(t, 1<<20)
	for name, b := range old {
		again.Create(name)
		again.Append(name, b)
	}
	for _, name := range d.List() {
		b, _ := d.Read(name)
		again.Create(name)
		again.Append(name, b)
	}
	again.Create("device.tmp")
	again.Append("device.tmp", []byte("torn"))
	o := open(t, again)
	if kept(o) != kept(c) {
		t.Error("unlike")
	}
	for i := range 100 {
		set(t, o, "c", "f", fmt.Sprint(i, strings.Repeat("v", 500)))
	}
	if before := kept(o); kept(open(t, again)) != before {
		t.Error("opened anew")
	}
}

func TestOnlyRecordsAreReplayed(t *testing.T) {
	c, d := ready(t)
	set(t, c, "c", "f", "v")
	good, _ := d.Read("log-000001")
	for i, record := range [][]byte{{}, {3}, {3, 99}, {4, 0}, {3, 1, 0}, {3, 0, 7}, {3, 2}, {3, 3}, {3, 4, 0, 0, 0}, {3, 4, 0}, {3, 5, 1}} {
		x := disk(t, 1000)
		b, _ := frame.Append(good, record)
		x.Create("log-000001")
		x.Append("log-000001", b)
		if o, e := Open(x, plain); o != nil || e != api.ECORRUPT {
			t.Errorf("%d is replayed: %v", i, e)
		}
	}
}
