package platform

import (
	"bytes"
	"fmt"
	"math"
	"math/rand"
	"reflect"
	"slices"
	"strings"
	"testing"

	"rolodex/api"
	"rolodex/crdt"
	"rolodex/dot"
	"rolodex/simnet"
	"rolodex/view"
)

var plain = Options{2, 100000, 1000, 1000}

func world(t *testing.T, o Options) *World {
	t.Helper()
	w, e := New(o)
	if e != api.OK {
		t.Fatal(e)
	}
	return w
}

// registered is a world of two devices that are registered.
func registered(t *testing.T) *World {
	w := world(t, plain)
	ok(t, w.Register(0), w.Register(1))
	return w
}

func ok(t *testing.T, l ...api.Errno) {
	t.Helper()
	for i, e := range l {
		if e != api.OK {
			t.Fatalf("call %d: %v", i, e)
		}
	}
}

func set(t *testing.T, w *World, dev int, contact, field, value string) {
	t.Helper()
	_, e := w.Set(dev, contact, field, value)
	ok(t, e)
}

func round(t *testing.T, w *World, dev, want int) {
	t.Helper()
	if n, e := w.Round(dev); n != want || e != api.OK {
		t.Errorf("Round(%d): %d %v, want %d", dev, n, e, want)
	}
}

func TestExamples(t *testing.T) {
	w := registered(t)
	set(t, w, 0, "c", "fn", "Ann")
	round(t, w, 0, 2)
	round(t, w, 1, 1)
	for range 2 {
		if l := w.Device(1).List(); !slices.Equal(l, []view.Line{{Contact: "c", Title: "Ann", Fields: 1}}) {
			t.Errorf("%v", l)
		}
		ok(t, w.Crash(0, nil), w.Crash(1, nil))
	}
	w = registered(t)
	set(t, w, 0, "c", "fn", "Ann")
	set(t, w, 1, "c", "fn", "Bob")
	round(t, w, 0, 2)
	round(t, w, 1, 2)
	round(t, w, 0, 1)
	if l, _ := w.Device(0).Get("c"); !slices.Equal(l, []view.Field{{Name: "fn", Value: "Bob", Values: 2}}) {
		t.Errorf("%v", l)
	}
	w = registered(t)
	set(t, w, 0, "c", "fn", "Ann")
	ok(t, w.Crash(0, nil))
	round(t, w, 0, 0)
	w = registered(t)
	ok(t, w.Revoke(1))
	set(t, w, 0, "c", "fn", "Ann")
	round(t, w, 0, 1)
}

func TestP25_1New(t *testing.T) {
	for _, o := range []Options{{0, 1, 1, 1}, {-1, 1, 1, 1}, {17, 1, 1, 1}, {1, -1, 1, 1}, {1, 1000, 0, 1}, {1, 1000, 1, 0}, {1, 1000, 1<<40 + 1, 1}, {1, 1000, 1, 1<<40 + 1}, {1, 0, 0, 0}, {math.MinInt, 0, 0, 0}} {
		if w, e := New(o); w != nil || e != api.EARG {
			t.Errorf("%v: %v", o, e)
		}
	}
	if w, e := New(Options{1, 0, 1, 1}); w != nil || e != api.EFULL {
		t.Error("no room")
	}
	w := world(t, Options{16, 1000, 1 << 40, 1 << 40})
	if w.Now() != 0 || len(w.Packets()) != 0 || len(w.Server().Devices()) != 0 || w.Device(15) == nil || w.Device(16) != nil || w.Device(-1) != nil {
		t.Error("a new world")
	}
}

func TestP25_2NoSuchDevice(t *testing.T) {
	w := registered(t)
	for _, dev := range []int{-1, 2, 99, math.MinInt, math.MaxInt} {
		_, e1 := w.Set(dev, "c", "f", "v")
		_, e2 := w.Drop(dev, "c", "")
		_, e3 := w.Photo(dev, "c", make([]byte, 9999))
		_, _, e4 := w.Import(dev, "x")
		_, e5 := w.Export(dev, "c")
		_, e6 := w.Send(dev)
		_, e7 := w.Round(dev)
		for i, e := range []api.Errno{e1, e2, e3, e4, e5, e6, e7, w.Register(dev), w.Poll(dev)} {
			if e != api.EARG {
				t.Errorf("call %d of device %d: %v", i, dev, e)
			}
		}
		if dev != -1 && (w.Crash(dev, nil) != api.EARG || w.Room(dev, 5) != api.EARG) {
			t.Errorf("node %d", dev)
		}
	}
	if w.Now() != 0 || w.Server().Tokens() != 2 {
		t.Error("refused calls")
	}
}

func TestP25_2Edits(t *testing.T) {
	w := registered(t)
	if e, err := w.Set(1, "c", "f", "v"); err != api.OK || e.Dot != (api.Dot{Dev: 1, N: 1}) {
		t.Error("Set")
	}
	if e, err := w.Drop(1, "c", "f"); err != api.OK || e.Dot != (api.Dot{Dev: 1, N: 2}) || e.Op != api.Drop {
		t.Error("Drop")
	}
	if _, err := w.Drop(1, "c", "f"); err != api.ENONE {
		t.Error("Drop of nothing")
	}
	if e, err := w.Photo(0, "c", []byte("abc")); err != api.OK || e.Field != "photo" {
		t.Error("Photo")
	}
	if b, e := w.Device(0).Photo("c"); e != api.OK || string(b) != "abc" {
		t.Error("its photo")
	}
}

func card(lines ...string) string {
	return "BEGIN:VCARD\nVERSION:4.0\n" + strings.Join(lines, "\n") + "\nEND:VCARD\n"
}

func TestP25_2ImportAndExport(t *testing.T) {
	w := registered(t)
	if n, line, e := w.Import(0, card("UID:u", "FN:Ann\\, B", "TEL:1", "TEL:2", "PHOTO:x", "g.PHOTO:y")+card("FN:Bob")); n != 6 || line != 0 || e != api.OK {
		t.Errorf("%d %d %v", n, line, e)
	}
	if n, line, e := w.Import(0, card("FN:x")+"nonsense"); n != 0 || line != 5 || e != api.ESYNTAX {
		t.Errorf("%d %d %v", n, line, e)
	}
	if len(w.Device(0).List()) != 2 {
		t.Error("two contacts")
	}
	s, e := w.Export(0, "u")
	if want := strings.ReplaceAll(card("FN:Ann\\, B", "g.PHOTO:y", "TEL:1", "TEL:2", "UID:u"), "\n", "\r\n"); e != api.OK || s != want {
		t.Errorf("%q", s)
	}
	if s, e := w.Export(0, "x"); s != "" || e != api.ENONE {
		t.Error("no contact")
	}
	for _, f := range []string{"tel#3", "tel#5", "x#2", "FN", "raw.fn", "begin", `p;q="a#5"`, `p;q="a#5"#2`, "p;q=b", "tel;type=a", "#2"} {
		set(t, w, 1, "c", f, "v"+f)
	}
	set(t, w, 1, "c", "tel", "1")
	set(t, w, 1, "c", "tel#2", "2")
	set(t, w, 1, "c", "tel#11", "11")
	set(t, w, 1, "c", "note", "\r")
	s, e = w.Export(1, "c")
	if want := strings.ReplaceAll(card(`P;Q=a#5:vp;q="a#5"`, `P;Q=a#5:vp;q="a#5"#2`, "P;Q=b:vp;q=b", "TEL:1", "TEL:2", "TEL:vtel#3", `TEL;TYPE=a:vtel\;type=a`), "\n", "\r\n"); e != api.OK || s != want {
		t.Errorf("%q", s)
	}
	if n, _, e := w.Import(0, s); n != 7 || e != api.OK {
		t.Errorf("what is exported is imported: %d %v", n, e)
	}
	ok(t, w.Room(0, 0))
	if n, line, e := w.Import(0, card("FN:x")); n != 0 || line != 0 || e != api.EFULL {
		t.Errorf("%d %d %v", n, line, e)
	}
}

func TestP25_2ImportStays(t *testing.T) {
	w := world(t, Options{1, 150, 1000, 1000})
	n, line, e := w.Import(0, card("UID:u", "A:1", "B:2", "C:3", "D:4", "E:5", "F:6", "G:7", "H:8", "I:9", "J:10"))
	if l, _ := w.Device(0).Get("u"); n != 0 || line != 0 || e != api.EFULL || len(l) == 0 || len(l) == 11 {
		t.Errorf("%d %d %v, %d fields", n, line, e, len(l))
	}
}

func TestP25_3Packets(t *testing.T) {
	w := registered(t)
	set(t, w, 0, "c", "fn", "Ann")
	id, e := w.Send(0)
	if id != 1 || e != api.OK || len(w.Packets()) != 1 || w.Packets()[0].From != 0 || w.Packets()[0].To != -1 {
		t.Errorf("%d %v", id, e)
	}
	if id, e := w.Send(0); id != 0 || e != api.OK {
		t.Error("one is out")
	}
	if id, e := w.Double(1); id != 2 || e != api.OK {
		t.Error("Double")
	}
	ok(t, w.Deliver(2, 10), w.Deliver(1, -1))
	if p := w.Packets(); len(p) != 2 || p[0].Id != 3 || p[0].From != -1 || p[0].To != 0 {
		t.Errorf("%v", p)
	}
	if w.Deliver(1, -1) != api.ENONE || w.Lose(1) != api.ENONE {
		t.Error("a packet that is gone")
	}
	if _, e := w.Double(1); e != api.ENONE {
		t.Error("a packet that is gone")
	}
	ok(t, w.Deliver(3, -1))
	if !w.Device(0).Out() || len(w.Device(0).Outbox()) != 1 {
		t.Error("the answer of a cut request has no X-Id")
	}
	ok(t, w.Deliver(4, -1))
	if w.Device(0).Out() || len(w.Device(0).Outbox()) != 0 || w.Server().Devices()[0].Upto != 1 {
		t.Error("the answer")
	}
	if id := w.Inject(-1, []byte("x\r\n")); id != 5 || w.Packets()[0] != (simnet.Packet{Id: 5, From: 99, To: -1, Len: 3}) {
		t.Error("Inject")
	}
	ok(t, w.Deliver(5, -1))
	if p := w.Packets(); len(p) != 1 || p[0].To != 99 {
		t.Errorf("%v", p)
	}
	w.Inject(0, []byte("nonsense"))
	w.Inject(1000, nil)
	ok(t, w.Deliver(6, -1), w.Deliver(7, -1), w.Deliver(8, -1), w.Lose(w.Inject(0, nil)))
	if len(w.Packets()) != 0 {
		t.Error("they are gone")
	}
}

func TestP25_3ClockAndNumbers(t *testing.T) {
	w := registered(t)
	w.Feed(1)
	w.Feed(3)
	id, _ := w.Send(0)
	ok(t, w.Lose(id), w.Tick(10))
	if id, _ := w.Send(0); id != 0 || w.Device(0).Out() {
		t.Error("it has failed")
	}
	ok(t, w.Tick(1))
	if id, _ := w.Send(0); id != 0 {
		t.Error("2 and 3 modulo 3 behind: 12")
	}
	ok(t, w.Tick(1))
	if id, _ := w.Send(0); id == 0 {
		t.Error("then it is ready")
	}
	w = registered(t)
	for _, v := range []uint64{0, 1, 0} {
		w.Feed(v)
	}
	id, _ = w.Send(0)
	ok(t, w.Lose(id), w.Tick(10))
	w.Send(0)
	ok(t, w.Tick(2))
	if id, _ := w.Send(0); id != 0 {
		t.Error("2 and 1 behind")
	}
	ok(t, w.Tick(1))
	if id, _ := w.Send(0); id == 0 {
		t.Error("then it is ready")
	}
	if w.Tick(-1) != api.EARG || w.Now() != 13 {
		t.Error("the clock")
	}
}

func TestP25_3RoomBelowNothing(t *testing.T) {
	w := registered(t)
	set(t, w, 0, "c", "fn", "Ann")
	ok(t, w.Room(0, -50000))
	if _, e := w.Set(0, "c", "fn", "x"); e != api.EFULL {
		t.Error("a quota below 0 is 0")
	}
	ok(t, w.Crash(0, nil))
	set(t, w, 0, "c", "fn", "Bob")
}

func TestP25_3CrashAndRoom(t *testing.T) {
	w := registered(t)
	set(t, w, 0, "c", "fn", "Ann")
	round(t, w, 0, 2)
	ok(t, w.Room(0, 0), w.Room(-1, 0))
	if _, e := w.Set(0, "c", "fn", "x"); e != api.EFULL {
		t.Error("no room")
	}
	if w.Register(0) != api.EFULL || w.Register(0) != api.EREADONLY {
		t.Error("no room for the server")
	}
	ok(t, w.Crash(0, []int{5, 5, 5}), w.Crash(-1, []int{5, 5, 5}))
	set(t, w, 0, "d", "fn", "Bob")
	if l := w.Device(0).List(); len(l) != 2 {
		t.Errorf("%v", l)
	}
	if id, _ := w.Send(0); id != 0 {
		t.Error("the token is forgotten")
	}
	if w.Register(0) == api.OK {
		t.Error("the server's disk was opened without more room")
	}
	ok(t, w.Room(-1, 100000), w.Crash(-1, nil), w.Register(0))
	round(t, w, 0, 2)
	if len(w.Server().State().Contacts()) != 2 {
		t.Error("the server's state")
	}
}

func TestP25_3Collect(t *testing.T) {
	w := registered(t)
	set(t, w, 0, "c", "fn", "Ann")
	round(t, w, 0, 2)
	ok(t, w.Tick(1001))
	if a, b, e := w.Collect(); a != 2 || b != 1 || e != api.OK {
		t.Errorf("%d %d %v", a, b, e)
	}
	round(t, w, 0, 1)
	ok(t, w.Register(0))
	round(t, w, 0, 3)
	if w.Revoke(99) != api.EARG || w.Revoke(3) != api.OK {
		t.Error("Revoke")
	}
	round(t, w, 0, 1)
}

func TestP25_4Round(t *testing.T) {
	w := registered(t)
	round(t, w, 0, 1)
	if w.Now() != 100 {
		t.Error("Tick(100)")
	}
	ok(t, w.Poll(0))
	id, _ := w.Send(0)
	round(t, w, 0, 1)
	if w.Now() != 300 || len(w.Packets()) != 1 || w.Packets()[0].Id != id {
		t.Error("the request that was out waits on")
	}
	for i := range 20 {
		set(t, w, 0, fmt.Sprint("c", i), "fn", "v")
	}
	w.Photo(0, "p", bytes.Repeat([]byte("abcdefg"), 50))
	// Pushes, what the server has, six chunks and a manifest, pulls.
	round(t, w, 0, 3+1+7+3)
	round(t, w, 1, 3+7)
	if b, e := w.Device(1).Photo("p"); e != api.OK || len(b) != 350 || !w.Device(1).Idle() {
		t.Error("the photo")
	}
	w = registered(t)
	ok(t, w.Tick(1<<60-150))
	w.Register(0)
	round(t, w, 0, 1)
	if n, e := w.Round(0); n != 0 || e != api.EARG || w.Now() != 1<<60-50 {
		t.Error("beyond the clock's end")
	}
	w = registered(t)
	ok(t, w.Tick(1<<60-150))
	w.Register(0)
	w.Send(0)
	if n, e := w.Round(0); n != 0 || e != api.EARG || w.Now() != 1<<60-150 || !w.Device(0).Out() {
		t.Error("beyond the clock's end, with a request out")
	}
}

// history is all events that any device answered, or made anew.
type history struct {
	t      *testing.T
	events map[api.Dot]api.Event
	photos map[string][]byte
}

func (h *history) note(e api.Event) {
	if e.Op == 0 {
		return
	}
	if old, ok := h.events[e.Dot]; ok && !reflect.DeepEqual(old, e) {
		h.t.Fatalf("T4: a dot is given twice: %v, %v", old, e)
	}
	h.events[e.Dot] = e
}

// check asks whether a state is that of those events that it has seen.
func (h *history) check(what string, s *crdt.State) {
	h.t.Helper()
	seen := s.Seen()
	var subset []api.Event
	covered := dot.New()
	for _, e := range h.events {
		if seen.Has(e.Dot) {
			subset = append(subset, e)
			covered.Add(e.Dot)
		}
	}
	slices.SortFunc(subset, func(a, b api.Event) int {
		if dot.Less(a.Dot, b.Dot) {
			return -1
		}
		return 1
	})
	want := crdt.New()
	for _, e := range subset {
		want.Apply(e)
	}
	if !want.Same(s) || !seen.Within(covered) {
		h.t.Fatalf("T1: %s shows\n%v, want\n%v", what, s.Entries(), want.Entries())
	}
}

func (h *history) checkPhotos(w *World, dev int, all bool) {
	for _, x := range w.Device(dev).State().Entries() {
		want, ok := h.photos[x.Value]
		if x.Field != "photo" || !ok {
			continue
		}
		fields, _ := w.Device(dev).Get(x.Contact)
		i := slices.IndexFunc(fields, func(f view.Field) bool { return f.Name == "photo" })
		if fields[i].Value != x.Value {
			continue
		}
		b, e := w.Device(dev).Photo(x.Contact)
		if e == api.OK && !bytes.Equal(b, want) || e != api.OK && (e != api.ENONE || all) {
			h.t.Fatalf("the photo of %s on %d: %v", x.Contact, dev, e)
		}
	}
}

func told(w *World, n int) string {
	if n >= 0 {
		c := w.Device(n)
		return fmt.Sprintf("%x %v %q %q %d %d %d", c.State().Encode(), c.Outbox(), c.Uploads(), c.Blobs(), c.Cursor(), c.Epoch(), c.Counter())
	}
	s := w.Server()
	base, next := s.Log()
	return fmt.Sprintf("%x %d %d %v %q %d", s.State().Encode(), base, next, s.Devices(), s.Blobs(), s.Tokens())
}

func (h *history) step(w *World, x *rand.Rand, devices int) {
	dev := x.Intn(devices)
	contact := fmt.Sprint("c", x.Intn(4))
	var e api.Event
	switch x.Intn(22) {
	case 0, 1, 2:
		e, _ = w.Set(dev, contact, []string{"fn", "tel", "note"}[x.Intn(3)], strings.Repeat("v", x.Intn(40))+fmt.Sprint(x.Intn(50)))
	case 3:
		e, _ = w.Drop(dev, contact, []string{"", "fn", "tel"}[x.Intn(3)])
	case 4:
		photo := bytes.Repeat([]byte{byte(x.Intn(6))}, x.Intn(200))
		if e, _ = w.Photo(dev, contact, photo); e.Op != 0 {
			h.photos[e.Value] = photo
		}
	case 5, 6, 7, 8:
		w.Send(dev)
	case 9, 10, 11, 12, 13:
		if p := w.Packets(); len(p) > 0 {
			most := -1
			if x.Intn(8) == 0 {
				most = x.Intn(200)
			}
			w.Deliver(p[x.Intn(len(p))].Id, most)
		}
	case 14:
		if p := w.Packets(); len(p) > 0 {
			w.Double(p[x.Intn(len(p))].Id)
		}
	case 15:
		if p := w.Packets(); len(p) > 0 {
			w.Lose(p[x.Intn(len(p))].Id)
		}
	case 16:
		w.Tick(int64(x.Intn(60)))
	case 17:
		w.Poll(dev)
		w.Register(dev)
	case 18:
		n := x.Intn(devices+1) - 1
		before := told(w, n)
		if e := w.Crash(n, []int{x.Intn(9), x.Intn(99), x.Intn(99), x.Intn(99), x.Intn(99)}); e != api.OK || told(w, n) != before {
			h.t.Fatalf("T2: node %d: %v\n%s, ahead\n%s", n, e, told(w, n), before)
		}
		if n >= 0 {
			w.Register(n)
		}
	case 19:
		if x.Intn(4) == 0 {
			w.Collect()
		}
	case 20:
		if x.Intn(4) == 0 {
			w.Room(x.Intn(devices+1)-1, x.Intn(30000))
		}
	case 21:
		h.round(w, dev)
	}
	h.note(e)
}

// round is a Round, step by step, so that no event that is made anew is missed.
func (h *history) round(w *World, dev int) {
	w.Tick(100)
	w.Poll(dev)
	for range 100 {
		id, _ := w.Send(dev)
		if id == 0 {
			return
		}
		w.Deliver(id, -1)
		p := w.Packets()
		w.Deliver(p[len(p)-1].Id, -1)
		for _, e := range w.Device(dev).Outbox() {
			h.note(e)
		}
	}
}

// Whatever is lost, doubled, cut, crashed, full, evicted: each node shows what its events come to, and in the end they agree.
func TestP25_5AllTogether(t *testing.T) {
	for seed := range int64(40) {
		x := rand.New(rand.NewSource(seed))
		devices := 2 + x.Intn(2)
		w := world(t, Options{devices, 2000 + x.Intn(60000), 100000, 200 + int64(x.Intn(1000))})
		h := &history{t, map[api.Dot]api.Event{}, map[string][]byte{}}
		for dev := range devices {
			w.Register(dev)
		}
		for range 400 {
			h.step(w, x, devices)
			for dev := range devices {
				for _, e := range w.Device(dev).Outbox() {
					h.note(e)
				}
			}
			for dev := range devices {
				h.check(fmt.Sprint("device ", dev), w.Device(dev).State())
				h.checkPhotos(w, dev, false)
			}
			h.check("the server", w.Server().State())
		}
		for n := -1; n < devices; n++ {
			ok(t, w.Room(n, 1<<24), w.Crash(n, nil))
		}
		for dev := range devices {
			ok(t, w.Register(dev))
		}
		for range 2 {
			for dev := range devices {
				if n, e := w.Round(dev); e != api.OK || n == 1000 {
					t.Fatalf("seed %d: Round(%d): %d %v", seed, dev, n, e)
				}
			}
		}
		for dev := range devices {
			c := w.Device(dev)
			if !c.State().Same(w.Server().State()) || len(c.Outbox()) != 0 {
				t.Fatalf("T5: seed %d: device %d does not agree", seed, dev)
			}
			h.checkPhotos(w, dev, true)
		}
	}
}

func TestT3DropsHold(t *testing.T) {
	w := registered(t)
	set(t, w, 0, "c", "fn", "Ann")
	round(t, w, 0, 2)
	round(t, w, 1, 1)
	w.Drop(0, "c", "")
	set(t, w, 1, "c", "tel", "5")
	round(t, w, 0, 2)
	round(t, w, 1, 2)
	ok(t, w.Tick(5000))
	w.Collect()
	ok(t, w.Register(0), w.Register(1), w.Crash(-1, nil))
	for range 2 {
		w.Round(0)
		w.Round(1)
	}
	for dev := range 2 {
		if l := w.Device(dev).List(); !slices.Equal(l, []view.Line{{Contact: "c", Title: "c", Fields: 1}}) {
			t.Errorf("%v", l)
		}
	}
}

func TestT4Evictions(t *testing.T) {
	w := registered(t)
	set(t, w, 0, "c", "fn", "Ann")
	set(t, w, 1, "c", "fn", "Bob")
	round(t, w, 1, 2)
	ok(t, w.Tick(5000))
	if a, _, _ := w.Collect(); a != 2 {
		t.Error("both are evicted")
	}
	ok(t, w.Register(0))
	id, _ := w.Send(0)
	ok(t, w.Deliver(id, -1))
	if n := len(w.Server().State().Entries()); n != 1 {
		t.Error("an evicted device pushes nothing")
	}
	ok(t, w.Deliver(id+1, -1))
	round(t, w, 0, 3)
	entries := w.Server().State().Entries()
	if len(entries) != 1 || entries[0].Value != "Ann" || entries[0].Dot != (api.Dot{Dev: 0, N: 2}) {
		t.Errorf("its edit is made anew on the server's state: %v", entries)
	}
}
