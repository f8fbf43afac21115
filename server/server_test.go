package server

import (
	"fmt"
	"math"
	"math/rand"
	"reflect"
	"slices"
	"strings"
	"testing"

	"rolodex/api"
	"rolodex/auth"
	"rolodex/blobs"
	"rolodex/crdt"
	"rolodex/httpwire"
	"rolodex/proto"
	"rolodex/sha"
	"rolodex/simdisk"
)

var plain = Options{Key: []byte("key"), Lasts: 1000, Stale: 100, Mem: 1024}

func disk(t *testing.T, quota int) *simdisk.Disk {
	t.Helper()
	d, e := simdisk.New(quota)
	if e != api.OK {
		t.Fatal(e)
	}
	return d
}

func open(t *testing.T, d *simdisk.Disk, o Options) *Server {
	t.Helper()
	s, e := Open(d, o)
	if e != api.OK {
		t.Fatal(e)
	}
	return s
}

func register(t *testing.T, s *Server, dev int, now int64) string {
	t.Helper()
	token, e := s.Register(dev, now)
	if e != api.OK {
		t.Fatal(e)
	}
	return token
}

func at(dev int, n uint64) api.Dot { return api.Dot{Dev: dev, N: n} }

func set(d api.Dot, contact, field, value string, kills ...api.Dot) api.Event {
	return api.Event{Dot: d, Op: api.Set, Contact: contact, Field: field, Value: value, Kills: kills}
}

// caller asks a server with a token.
type caller struct {
	t     *testing.T
	s     *Server
	token string
	now   int64
}

func (c *caller) ask(method, path string, body []byte) (int, []byte) {
	c.t.Helper()
	b, e := httpwire.PrintRequest(httpwire.Request{Method: method, Path: path, Headers: []httpwire.Header{{Name: "X-Id", Value: "7"}, {Name: "Authorization", Value: "Bearer " + c.token}}, Body: body})
	if e != api.OK {
		c.t.Fatal(e)
	}
	r, n, e := httpwire.ReadResponse(c.s.Handle(b, c.now))
	if id, _ := r.Get("X-Id"); e != api.OK || n == 0 || id != "7" || r.Code != 200 && len(r.Body) > 0 {
		c.t.Fatalf("%s %s: %v %q", method, path, e, id)
	}
	return r.Code, r.Body
}

func must[T any](t *testing.T, e api.Errno, v T) T {
	t.Helper()
	if e != api.OK {
		t.Fatal(e)
	}
	return v
}

func (c *caller) push(epoch uint64, l ...api.Event) (int, uint64) {
	b, e := proto.EncodePush(proto.Push{Epoch: epoch, Events: l})
	code, body := c.ask("POST", "/push", must(c.t, e, b))
	ack, _ := proto.DecodePushAck(body)
	return code, ack.Upto
}

func (c *caller) pull(epoch, cursor uint64, most int) (int, proto.PullAck) {
	b, e := proto.EncodePull(proto.Pull{Epoch: epoch, Cursor: cursor, Most: most})
	code, body := c.ask("POST", "/pull", must(c.t, e, b))
	ack, _ := proto.DecodePullAck(body)
	return code, ack
}

func (c *caller) have(names ...string) (int, []string) {
	b, e := proto.EncodeHave(proto.Have{Names: names})
	code, body := c.ask("POST", "/have", must(c.t, e, b))
	ack, _ := proto.DecodeHaveAck(body)
	return code, ack.Want
}

func (c *caller) resync(epoch, upto uint64) (int, proto.ResyncAck) {
	b, e := proto.EncodeResync(proto.Resync{Epoch: epoch, Upto: upto})
	code, body := c.ask("POST", "/resync", must(c.t, e, b))
	ack, _ := proto.DecodeResyncAck(body)
	return code, ack
}

// told is all that a server tells.
func told(s *Server) string {
	base, next := s.Log()
	return fmt.Sprintf("%x %d %d %v %q %d", s.State().Encode(), base, next, s.Devices(), s.Blobs(), s.Tokens())
}

func TestExample(t *testing.T) {
	d := disk(t, 100000)
	s := open(t, d, plain)
	c := &caller{t, s, register(t, s, 1, 0), 0}
	e1 := set(at(1, 1), "c", "fn", "Ann")
	for range 2 {
		if code, upto := c.push(0, e1); code != 200 || upto != 1 {
			t.Errorf("%d %d", code, upto)
		}
	}
	if base, next := s.Log(); base != 0 || next != 1 {
		t.Error("Log")
	}
	other := &caller{t, s, strings.Replace(c.token, "v1.0", "v1.1", 1), 0}
	if code, _ := other.push(0, e1); code != 401 {
		t.Error("another token")
	}
	if evicted, dropped, e := s.Collect(plain.Stale + 1); evicted != 1 || dropped != 1 || e != api.OK {
		t.Errorf("%d %d %v", evicted, dropped, e)
	}
}

func TestP21_1Open(t *testing.T) {
	d := disk(t, 0)
	for _, o := range []Options{{nil, 0, 1, 64}, {nil, 1<<40 + 1, 1, 64}, {nil, 1, 0, 64}, {nil, 1, 1<<40 + 1, 64}, {nil, -1, -1, 64}, {nil, 1, 1, 63}, {nil, 1, 1, 65537}} {
		if s, e := Open(d, o); s != nil || e != api.EARG || len(d.List()) != 0 {
			t.Errorf("%v", o)
		}
	}
	s := open(t, d, Options{nil, 1 << 40, 1 << 40, 65536})
	if told(s) != told(open(t, d, Options{nil, 1, 1, 64})) || s.Tokens() != 0 || len(s.Devices()) != 0 || len(s.Blobs()) != 0 {
		t.Error("a new server")
	}
	if token, e := s.Register(0, 0); token != "" || e != api.EFULL || s.Tokens() != 0 || len(s.Devices()) != 0 {
		t.Error("a full disk")
	}
	if _, e := s.Register(0, 0); e != api.EREADONLY {
		t.Error("read only")
	}
	if _, _, e := s.Collect(0); e != api.OK {
		t.Error("nothing to collect")
	}
	d.Quota(1000)
	d.Create("manifest")
	if s, e := Open(d, plain); s != nil || e != api.ECORRUPT {
		t.Error("a corrupt store")
	}
}

func TestP21_1Register(t *testing.T) {
	d := disk(t, 100000)
	s := open(t, d, plain)
	for _, c := range []struct {
		dev int
		now int64
	}{{-1, 0}, {16, 0}, {0, -1}, {0, 1<<60 + 1}} {
		if token, e := s.Register(c.dev, c.now); token != "" || e != api.EARG || s.Tokens() != 0 || len(s.Devices()) != 0 {
			t.Errorf("%v", c)
		}
	}
	a, b := register(t, s, 3, 50), register(t, s, 3, 60)
	if !reflect.DeepEqual(s.Devices(), []Info{{Dev: 3, Last: 50}}) || s.Tokens() != 2 || a == b {
		t.Errorf("%v", s.Devices())
	}
	if c, _ := auth.Read(b); c != (auth.Claim{Dev: 3, Num: 2, Over: 1060}) {
		t.Errorf("%v", c)
	}
	register(t, s, 1, 0)
	if s.Devices()[0].Dev != 1 {
		t.Error("rising by Dev")
	}
	if s.Revoke(0) != api.EARG || s.Revoke(4) != api.EARG || s.Revoke(1) != api.OK || s.Revoke(1) != api.OK {
		t.Error("Revoke")
	}
	d.Crash(nil)
	s = open(t, d, plain)
	for token, want := range map[string]int{a: 401, b: 200} {
		if code, _ := (&caller{t, s, token, 70}).push(0); code != want {
			t.Errorf("%d, want %d", code, want)
		}
	}
	d.Quota(0)
	if s.Revoke(2) != api.EFULL {
		t.Error("it can't be written")
	}
	s = open(t, d, plain)
	d.Quota(100000)
	if code, _ := (&caller{t, s, b, 70}).push(0); code != 200 || s.Revoke(2) != api.OK || s.Tokens() != 3 {
		t.Error("then it is not revoked")
	}
	c := &caller{t, s, b, 70}
	if code, _ := c.push(0); code != 401 {
		t.Error("then it is revoked")
	}
}

func TestP21_2WhatIsNoRequest(t *testing.T) {
	s := open(t, disk(t, 100000), plain)
	token := register(t, s, 0, 0)
	before := told(s)
	head := "X-Id: 9\r\nAuthorization: Bearer " + token + "\r\n"
	for _, c := range []struct {
		req  string
		code int
		id   string
	}{
		{"", 400, "-"}, {"nonsense\r\n", 400, "-"}, {"GET / HTTP/1.1\r\n" + head, 400, "-"}, {"GET /" + strings.Repeat("x", 3000), 413, "-"}, {"PUT /blob HTTP/1.1\r\n" + head + "Content-Length: 99999\r\n\r\n", 413, "-"},
		{"POST /push HTTP/1.1\r\n" + head + "Content-Length: 2\r\n\r\n\x00\x00x", 400, "9"}, {"POST /push HTTP/1.1\r\nX-Id:\r\nContent-Length: 2\r\n\r\n\x00\x00", 401, ""},
		{"GET / HTTP/1.1\r\nx-ID: a b\r\nX-Id: 2\r\n\r\n", 401, "a b"}, {"GET / HTTP/1.1\r\nX-Id: " + strings.Repeat("i", 100) + "\r\n\r\n", 401, strings.Repeat("i", 100)}, {"GET / HTTP/1.1\r\nX-Id: " + strings.Repeat("i", 101) + "\r\nX-Id: 1\r\n\r\n", 401, "-"},
		{"POST /nowhere HTTP/1.1\r\n" + head + "\r\n", 404, "9"},
		{"POST /push HTTP/1.1\r\nAuthorization: bearer " + token + "\r\nContent-Length: 2\r\n\r\n\x00\x00", 401, "-"}, {"POST /push HTTP/1.1\r\nAuthorization: x\r\nAuthorization: Bearer " + token + "\r\nContent-Length: 2\r\n\r\n\x00\x00", 401, "-"},
		{"POST /push HTTP/1.1\r\nAuthorization: Bearer  " + token + "\r\nContent-Length: 2\r\n\r\n\x00\x00", 401, "-"},
	} {
		r, n, e := httpwire.ReadResponse(s.Handle([]byte(c.req), 5))
		id, ok := r.Get("X-Id")
		if !ok {
			id = "-"
		}
		if e != api.OK || n == 0 || r.Code != c.code || id != c.id || len(r.Body) != 0 || told(s) != before {
			t.Errorf("%.60q: %d %q", c.req, r.Code, id)
		}
	}
}

func TestT6Tokens(t *testing.T) {
	d := disk(t, 100000)
	s := open(t, d, plain)
	tokens := []string{register(t, s, 0, 0), register(t, s, 1, 0), "v1..", "x"}
	good, _ := auth.New([]byte("other")).Issue(0, 0, 0, 1000)
	free := auth.New([]byte("key"))
	for range 2 {
		free.Issue(2, 0, 0, 1000)
	}
	unregistered := strings.Replace(tokens[1], "v1.01", "v1.02", 1)
	tokens = append(tokens, good, unregistered)
	later, _ := free.Issue(0, 0, 0, 1000)
	tokens = append(tokens, later)
	if s.Revoke(2) != api.OK {
		t.Fatal("Revoke")
	}
	before := told(s)
	for i, token := range tokens {
		now := int64(5)
		if i == 0 {
			now = 1000
		}
		c := &caller{t, s, token, now}
		for _, path := range []string{"POST /push", "POST /pull", "POST /have", "PUT /blob", "POST /resync", "GET /blob/" + strings.Repeat("a", 64), "GET /x"} {
			method, path, _ := strings.Cut(path, " ")
			if code, _ := c.ask(method, path, []byte{0}); code != 401 || told(s) != before {
				t.Errorf("%s with token %d: %d", path, i, code)
			}
		}
	}
	if code, _ := (&caller{t, s, tokens[0], 999}).push(0); code != 200 {
		t.Error("a good token")
	}
}

func TestP21_2NotFoundAndForms(t *testing.T) {
	s := open(t, disk(t, 100000), plain)
	c := &caller{t, s, register(t, s, 0, 0), 5}
	name := strings.Repeat("a", 64)
	before := told(s)
	for _, x := range []struct {
		method, path, body string
		code               int
	}{
		{"GET", "/push", "", 404}, {"POST", "/push/", "", 404}, {"POST", "/blob", "", 404}, {"PUT", "/push", "", 404}, {"GET", "/blob", "", 404}, {"GET", "/blob/", "", 404}, {"GET", "/blob/" + name[1:], "", 404}, {"GET", "/blob/" + strings.ToUpper(name), "", 404},
		{"PUT", "/blob/" + name, "", 404}, {"GET", "/blob/" + name + "a", "x", 404}, {"GET", "/blob/" + name, "x", 400}, {"GET", "/blob/" + name, "", 404}, {"POST", "/push", "", 400}, {"POST", "/push", "\x00\x00\x00", 400}, {"POST", "/pull", "\x00\x00", 400},
		{"POST", "/have", "\x01", 400}, {"POST", "/resync", "\x00", 400}, {"PUT", "/blob", strings.Repeat("x", api.MaxPhoto+101), 400},
		{"POST", "/push", "\x01\x00", 409}, {"POST", "/pull", "\x01\x00\x08", 409}, {"POST", "/pull", "\x01\x63\x08", 409}, {"POST", "/pull", "\x00\x63\x08", 400},
	} {
		if code, _ := c.ask(x.method, x.path, []byte(x.body)); code != x.code || told(s) != before {
			t.Errorf("%s %s: %d, want %d", x.method, x.path, code, x.code)
		}
	}
}

func TestP21_2Push(t *testing.T) {
	s := open(t, disk(t, 1<<20), plain)
	c := &caller{t, s, register(t, s, 1, 0), 7}
	e := func(n uint64) api.Event { return set(at(1, n), "c", fmt.Sprint("f", n), "v") }
	for i, x := range []struct {
		l    []api.Event
		code int
		upto uint64
	}{
		{nil, 200, 0}, {[]api.Event{e(2)}, 400, 0}, {[]api.Event{set(at(2, 1), "c", "f", "v")}, 400, 0}, {[]api.Event{e(1), e(3)}, 400, 0}, {[]api.Event{e(1), e(1)}, 400, 0}, {[]api.Event{e(1), set(at(2, 2), "c", "f", "v")}, 400, 0},
		{[]api.Event{e(1), e(2)}, 200, 2}, {[]api.Event{e(1)}, 200, 2}, {[]api.Event{e(4)}, 400, 0}, {[]api.Event{e(2), e(3), e(4)}, 200, 4}, {[]api.Event{set(at(1, 2), "other", "f", "v"), e(3)}, 200, 4}, {nil, 200, 4},
	} {
		if code, upto := c.push(0, x.l...); code != x.code || upto != x.upto {
			t.Errorf("%d: %d %d", i, code, upto)
		}
	}
	want := crdt.New()
	for n := range uint64(4) {
		want.Apply(e(n + 1))
	}
	if _, next := s.Log(); !s.State().Same(want) || next != 4 || !reflect.DeepEqual(s.Devices(), []Info{{Dev: 1, Upto: 4, Last: 7}}) {
		t.Errorf("%v", s.Devices())
	}
	for i := range uint64(64) {
		x := e(i + 5)
		for k := range uint64(64) {
			x.Kills = append(x.Kills, at(9, 10+2*(64*i+k)))
		}
		if code, _ := c.push(0, x); code != 200 {
			t.Fatalf("%d: %d", i, code)
		}
	}
	before := told(s)
	x := e(69)
	x.Kills = []api.Dot{at(9, 1<<30)}
	if code, _ := c.push(0, x); code != 400 || told(s) != before {
		t.Error("an event that the state does not take")
	}
}

func TestP21_2Pull(t *testing.T) {
	s := open(t, disk(t, 100000), plain)
	c := &caller{t, s, register(t, s, 1, 0), 7}
	var all []api.Event
	for n := range uint64(20) {
		all = append(all, set(at(1, n+1), "c", "f", fmt.Sprint(n)))
		c.push(0, all[n])
	}
	o := &caller{t, s, register(t, s, 2, 0), 9}
	for i, x := range []struct {
		cursor, next uint64
		most         int
		more         bool
		device       uint64
	}{{0, 8, 1000, true, 0}, {0, 0, 0, true, 0}, {5, 8, 3, true, 5}, {3, 11, 8, true, 5}, {12, 20, 8, false, 12}, {20, 20, 8, false, 20}, {0, 8, 9, true, 20}} {
		code, ack := o.pull(0, x.cursor, x.most)
		if code != 200 || ack.Next != x.next || ack.More != x.more || len(ack.Events) != int(x.next-x.cursor) || s.Devices()[1].Cursor != x.device {
			t.Errorf("%d: %d %v", i, code, ack)
		}
		if len(ack.Events) > 0 && !reflect.DeepEqual(ack.Events, all[x.cursor:x.next]) {
			t.Errorf("%d: %v", i, ack.Events)
		}
	}
	if code, _ := o.pull(0, 21, 8); code != 400 {
		t.Error("a cursor beyond Next")
	}
}

func TestP21_2Blobs(t *testing.T) {
	d := disk(t, 1<<20)
	s := open(t, d, plain)
	c := &caller{t, s, register(t, s, 1, 0), 7}
	a, b := strings.Repeat("a", 64), strings.Repeat("b", 64)
	var names []string
	for _, n := range []int{0, 1, 64, 4095, 4096, 4097, api.MaxPhoto + 100} {
		blob := []byte(strings.Repeat("x", n))
		name := sha.Hex(sha.Sum(blob))
		for range 2 {
			if code, body := c.ask("PUT", "/blob", blob); code != 200 || string(body) != name {
				t.Errorf("PUT of %d: %d", n, code)
			}
		}
		names = append(names, name)
	}
	d.Crash(nil)
	c.s = open(t, d, plain)
	for i, n := range []int{0, 1, 64, 4095, 4096, 4097, api.MaxPhoto + 100} {
		if code, body := c.ask("GET", "/blob/"+names[i], nil); code != 200 || string(body) != strings.Repeat("x", n) {
			t.Errorf("GET of %d: %d", n, code)
		}
	}
	if code, want := c.have(b, names[3], a, b, names[0]); code != 200 || !slices.Equal(want, []string{b, a}) {
		t.Errorf("%v", want)
	}
	slices.Sort(names)
	if !slices.Equal(c.s.Blobs(), names) {
		t.Error("Blobs")
	}
}

func TestP21_2Resync(t *testing.T) {
	s := open(t, disk(t, 100000), plain)
	c := &caller{t, s, register(t, s, 1, 0), 7}
	c.push(0, set(at(1, 1), "c", "f", "v"), set(at(1, 2), "c", "g", "v"))
	code, ack := c.resync(99, 1)
	if code != 200 || ack.Epoch != 1 || ack.Cursor != 2 || !slices.Equal(ack.State, s.State().Encode()) {
		t.Errorf("%d %v", code, ack)
	}
	if code, ack = c.resync(0, 10); code != 200 || ack.Epoch != 2 || !reflect.DeepEqual(s.Devices(), []Info{{Dev: 1, Epoch: 2, Upto: 10, Cursor: 2, Last: 7}}) {
		t.Errorf("%d %v", code, s.Devices())
	}
	if code, _ := c.push(1, set(at(1, 11), "c", "f", "v")); code != 409 {
		t.Error("an old epoch")
	}
	if code, upto := c.push(2, set(at(1, 11), "c", "f", "v")); code != 200 || upto != 11 {
		t.Error("behind the resync")
	}
	for n := range uint64(40) {
		c.push(2, set(at(1, n+12), fmt.Sprint(n), "f", strings.Repeat("v", 500)))
	}
	before := told(s)
	if code, _ := c.resync(2, 0); code != 503 || told(s) != before {
		t.Errorf("a state that is too long: %d", code)
	}
}

func TestP21_2FullDisk(t *testing.T) {
	d := disk(t, 100000)
	s := open(t, d, plain)
	c := &caller{t, s, register(t, s, 1, 0), 7}
	blob := []byte("blob")
	c.ask("PUT", "/blob", blob)
	d.Quota(0)
	before := told(s)
	c.now = 9
	for range 2 {
		for _, x := range []string{"POST /push \x00\x00", "POST /pull \x00\x00\x00", "POST /have \x00", "POST /resync \x00\x00", "PUT /blob x", "GET /blob/" + sha.Hex(sha.Sum(blob)) + " "} {
			w := strings.SplitN(x, " ", 3)
			if code, _ := c.ask(w[0], w[1], []byte(w[2])); code != 503 || told(s) != before {
				t.Errorf("%s: %d", x, code)
			}
		}
	}
	if code, _ := c.ask("GET", "/blob/"+strings.Repeat("a", 64), nil); code != 404 {
		t.Error("of what is not there nothing is written")
	}
	if code, _ := c.push(1); code != 409 {
		t.Error("409 is named first")
	}
	if _, _, e := s.Collect(1000); e != api.EFULL && e != api.EREADONLY || told(s) != before {
		t.Errorf("Collect: %v", e)
	}
	d.Crash(nil)
	if told(open(t, d, plain)) != before {
		t.Error("behind the crash")
	}
}

func TestP21_3Collect(t *testing.T) {
	s := open(t, disk(t, 1<<20), plain)
	a := &caller{t, s, register(t, s, 0, 0), 0}
	b := &caller{t, s, register(t, s, 1, 0), 0}
	for n := range uint64(12) {
		a.push(0, set(at(0, n+1), "c", "f", fmt.Sprint(n)))
	}
	want := func(what string, now int64, evicted, dropped int) {
		t.Helper()
		x, y, e := s.Collect(now)
		if x != evicted || y != dropped || e != api.OK {
			t.Errorf("%s: %d %d %v", what, x, y, e)
		}
	}
	want("nothing is stale", 100, 0, 0)
	want("at the least time", math.MinInt64, 0, 0)
	a.now, b.now = 50, 60
	a.pull(0, 8, 8)
	want("the other one's cursor is 0", 100, 0, 0)
	b.pull(0, 5, 8)
	want("the least cursor", 100, 0, 5)
	if base, next := s.Log(); base != 5 || next != 12 {
		t.Error("Log")
	}
	if code, _ := b.pull(0, 4, 8); code != 409 {
		t.Error("a cursor below Base")
	}
	if code, ack := b.pull(0, 5, 8); code != 200 || len(ack.Events) != 7 || ack.Events[0].Dot.N != 6 {
		t.Error("at Base")
	}
	want("not yet", 150, 0, 0)
	want("one is stale", 151, 1, 0)
	want("once is enough", 151, 0, 0)
	if code, _ := a.push(0); code != 409 || !s.Devices()[0].Evicted || s.Devices()[0].Epoch != 1 {
		t.Error("an evicted device")
	}
	if code, _ := a.push(1); code != 409 {
		t.Error("an evicted device with its new epoch")
	}
	if code, _ := a.pull(1, 12, 8); code != 409 {
		t.Error("an evicted device pulls")
	}
	if code, ack := a.resync(0, 12); code != 200 || ack.Epoch != 1 || ack.Cursor != 12 || s.Devices()[0].Evicted {
		t.Error("it resyncs")
	}
	want("all are stale", math.MaxInt64, 2, 7)
	if base, next := s.Log(); base != 12 || next != 12 {
		t.Error("Log")
	}
	if v := s.State().Contact("c"); len(v) != 12 {
		t.Error("the state stays")
	}
	if code, ack := a.resync(1, 12); code != 200 || ack.Epoch != 2 {
		t.Error("it resyncs again")
	}
	a.push(2, set(at(0, 13), "c", "f", "v"))
	register(t, s, 2, 1)
	if code, _ := (&caller{t, s, register(t, s, 2, 1), 1}).pull(0, 0, 8); code != 409 {
		t.Error("a new device must resync")
	}
	want("a new device holds nothing back that is dropped", 0, 0, 0)
}

func TestP21_3CollectBlobs(t *testing.T) {
	d := disk(t, 1<<20)
	s := open(t, d, plain)
	c := &caller{t, s, register(t, s, 0, 0), 0}
	photo := func(n int) (string, []string) {
		p := []byte(strings.Repeat("p", n-1) + "q")
		name, manifest, chunks, _ := blobs.Cut(p)
		all := []string{}
		for _, b := range append(chunks, manifest) {
			_, x := c.ask("PUT", "/blob", b)
			all = append(all, string(x))
		}
		return name, all
	}
	kept, keptBlobs := photo(100)
	_, _ = photo(200)
	_, loose := c.ask("PUT", "/blob", []byte("loose"))
	_, used := c.ask("PUT", "/blob", []byte("used"))
	_, noManifest := c.ask("PUT", "/blob", []byte("no manifest"))
	c.push(0, set(at(0, 1), "c", "photo", kept), set(at(0, 2), "d", "photo", "x"), set(at(0, 3), "d", "Photo", string(loose)), set(at(0, 4), "e", "photo", string(noManifest)), set(at(0, 5), "c", "photo", strings.Repeat("0", 64)))
	c.now = 90
	c.have(string(used))
	if _, _, e := s.Collect(100); e != api.OK || len(s.Blobs()) != 3+2+3 {
		t.Errorf("nothing is stale: %d", len(s.Blobs()))
	}
	if _, _, e := s.Collect(101); e != api.OK {
		t.Error(e)
	}
	want := append(keptBlobs, string(used), string(noManifest))
	slices.Sort(want)
	for range 3 {
		if !slices.Equal(s.Blobs(), slices.Compact(want)) {
			t.Errorf("%d blobs, want %d", len(s.Blobs()), len(want))
		}
		if code, _ := c.ask("GET", "/blob/"+string(loose), nil); code != 404 {
			t.Error("a blob that was dropped")
		}
		d.Crash([]int{3, 1})
		s = open(t, d, plain)
		c.s = s
	}
	c.ask("PUT", "/blob", []byte("loose"))
	d.Crash(nil)
	c.s = open(t, d, plain)
	if code, b := c.ask("GET", "/blob/"+string(loose), nil); code != 200 || string(b) != "loose" {
		t.Error("a blob that was dropped, and put again")
	}
}

// Whatever comes, behind any crash a server tells what it told ahead of it; and what a request refuses changes nothing.
func TestP21_5Crashes(t *testing.T) {
	x := rand.New(rand.NewSource(9))
	for round := range 60 {
		d := disk(t, 4000+x.Intn(30000))
		o := plain
		o.Mem = 64 + x.Intn(2000)
		s := open(t, d, o)
		now := int64(0)
		callers := make([]*caller, 3)
		made := make([]uint64, 3)
		for range 150 {
			now += int64(x.Intn(12))
			before := told(s)
			i := x.Intn(3)
			if callers[i] == nil || x.Intn(40) == 0 {
				if token, e := s.Register(i, now); e == api.OK {
					callers[i] = &caller{t, s, token, now}
				} else if told(s) != before {
					t.Fatal("a refused Register")
				}
				continue
			}
			c := callers[i]
			c.s, c.now = s, now
			info := s.Devices()[slices.IndexFunc(s.Devices(), func(d Info) bool { return d.Dev == i })]
			code := 0
			switch x.Intn(8) {
			case 0, 1, 2:
				var l []api.Event
				for n := range uint64(1 + x.Intn(3)) {
					e, _ := s.State().MakeSet(at(i, made[i]+n+1), fmt.Sprint("c", x.Intn(3)), "photo", sha.Hex(sha.Sum([]byte{1, byte(x.Intn(5))})))
					l = append(l, e)
				}
				code, _ = c.push(info.Epoch, l...)
				if code == 200 {
					made[i] += uint64(len(l))
				}
			case 3:
				code, _ = c.pull(info.Epoch, info.Cursor+uint64(x.Intn(5)), 8)
			case 4:
				name, manifest, chunks, _ := blobs.Cut(slices.Repeat([]byte{byte(x.Intn(5))}, 1+x.Intn(100)))
				code, _ = c.ask("PUT", "/blob", append(chunks, manifest)[x.Intn(2)])
				if code == 200 && x.Intn(2) == 0 {
					made[i]++
					before = told(s)
					if code, _ = c.push(info.Epoch, set(at(i, made[i]), "c", "photo", name)); code != 200 {
						made[i]--
					}
				}
			case 5:
				code, _ = c.resync(0, made[i])
			case 6:
				code, _ = c.have(append(s.Blobs()[:min(len(s.Blobs()), 3)], strings.Repeat("a", 64))...)
			case 7:
				if _, _, e := s.Collect(now); e == api.OK {
					code = 200
				}
			}
			if code != 200 && told(s) != before {
				t.Fatalf("round %d: code %d, but something changed", round, code)
			}
			if x.Intn(8) == 0 {
				before := told(s)
				d.Crash([]int{x.Intn(9), x.Intn(99), x.Intn(99), x.Intn(99), x.Intn(99), x.Intn(99)})
				if x.Intn(3) == 0 {
					d.Quota(d.Stat().Bytes + x.Intn(5000))
				}
				s = open(t, d, o)
				if told(s) != before {
					t.Fatalf("round %d: behind the crash\n%s, ahead\n%s", round, told(s), before)
				}
			}
		}
	}
}

func TestP21_4Looking(t *testing.T) {
	s := open(t, disk(t, 100000), plain)
	c := &caller{t, s, register(t, s, 2, 0), 0}
	register(t, s, 1, 0)
	c.push(0, set(at(2, 1), "c", "f", "v"))
	c.ask("PUT", "/blob", []byte("x"))
	before := told(s)
	s.State().Apply(set(at(3, 1), "d", "f", "v"))
	s.Devices()[0].Epoch = 9
	s.Blobs()[0] = "x"
	if told(s) != before {
		t.Error("what is told is no copy")
	}
	if l := s.Devices(); len(l) != 2 || l[0].Dev != 1 || l[1].Dev != 2 || s.Tokens() != 2 || len(s.Blobs()) != 1 {
		t.Error("what it tells")
	}
}

// What was dropped is gone from the store, too; what is used is kept, behind any crash.
func TestP21_3WhatIsLeftOfACollect(t *testing.T) {
	d := disk(t, 1<<22)
	s := open(t, d, plain)
	c := &caller{t, s, register(t, s, 0, 0), 0}
	var names []string
	for i := range 5 {
		_, name := c.ask("PUT", "/blob", []byte{byte(i)})
		names = append(names, string(name))
	}
	for n := range uint64(30) {
		c.push(0, set(at(0, n+1), fmt.Sprint("c", n), "photo", strings.Repeat("v", 500)), set(at(0, n+2), "c", "photo", strings.Repeat("0", 64)))
		c.push(0, set(at(0, n+1), fmt.Sprint("c", n), "f", "v"))
	}
	c.now = 50
	c.have(names[0], names[0])
	c.ask("PUT", "/blob", []byte{1})
	for round := range 3 {
		_, next := s.Log()
		c.now = int64(101 + round)
		c.pull(0, next, 8)
		if _, _, e := s.Collect(int64(101 + round)); e != api.OK {
			t.Fatal(e)
		}
		base, next := s.Log()
		if base != next || len(s.Blobs()) != 2 || !slices.Contains(s.Blobs(), names[0]) || !slices.Contains(s.Blobs(), names[1]) {
			t.Errorf("round %d: %d of %d, blobs %q", round, base, next, s.Blobs())
		}
		count := map[string]int{}
		for _, x := range s.db.Scan("", "", -1) {
			count[x.Key[:1]]++
		}
		if count["e"] != 0 || count["b"] != 2 || count["u"] != 2 || uint64(count["s"]) != s.meta.parts {
			t.Errorf("round %d: %v", round, count)
		}
		before := told(s)
		d.Crash([]int{9, 9, 9})
		s = open(t, d, plain)
		c.s = s
		if told(s) != before {
			t.Error("behind a crash")
		}
		for range 5 {
			if code, _ := c.push(0, set(at(0, s.Devices()[0].Upto+1), "x", "f", "v")); code != 200 {
				t.Fatal(code)
			}
		}
	}
	if code, _ := c.ask("PUT", "/blob/"+names[0], nil); code != 404 {
		t.Error("no such path")
	}
}
