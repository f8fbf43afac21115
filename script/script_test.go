package script

import (
	"math/rand"
	"reflect"
	"strings"
	"testing"

	"rolodex/api"
	"rolodex/platform"
)

func world(t *testing.T) *platform.World {
	t.Helper()
	w, e := platform.New(platform.Options{Devices: 2, Quota: 100000, Lasts: 1000, Stale: 1000})
	if e != api.OK {
		t.Fatal(e)
	}
	return w
}

// play plays a script's steps, and tells what is answered.
func play(t *testing.T, w *platform.World, text string) string {
	t.Helper()
	l, n, e := Parse(text)
	if e != api.OK || n != 0 {
		t.Fatalf("%q: line %d, %v", text, n, e)
	}
	var out []string
	for _, s := range l {
		out = append(out, Play(w, s))
	}
	return strings.Join(out, "; ")
}

func TestExample(t *testing.T) {
	w := world(t)
	if got := play(t, w, "set 0 c fn Ann_B\nget 0 c\nlist 0"); got != "ok 0.1; ok fn=Ann_B; ok c=Ann_B" {
		t.Error(got)
	}
	if _, n, e := Parse("send"); n != 1 || e != api.ESYNTAX {
		t.Error("send")
	}
}

func TestP26_1Words(t *testing.T) {
	for s, want := range map[string]string{"": `\e`, "a b": "a_b", "_": `\_`, "\n\t\\": `\n\t\\`, `\e`: `\\e`, "ä=#\r\x00\xff": "ä=#\r\x00\xff", "e": "e"} {
		if got := Tell(s); got != want {
			t.Errorf("Tell(%q): %q", s, got)
		}
		if got, ok := Told(want); got != s || !ok {
			t.Errorf("Told(%q): %q %v", want, got, ok)
		}
	}
	for _, word := range []string{"", `a\e`, `\ea`, `\e\e`, `\`, `a\`, `\x`, "a b", "a\tb", "a\nb", `\\\`, `\N`} {
		if s, ok := Told(word); s != "" || ok {
			t.Errorf("Told(%q): %q", word, s)
		}
	}
}

func TestP26_1Parse(t *testing.T) {
	text := "\n  # set\n\t\nset  0\tc f \\e \n drop -1 c\ndrop 1 c f\nphoto 01 a_b x\\_y\nimport 0 a\\nb\nget 0 c\nlist -0\nview 0 c\nregister 0\nrevoke 5\npoll 0\nlose 1\ndeliver 1\ndeliver 1 -05\ntick 999999999999\nfeed 000000000007\ncrash -1\ncrash 0 1 -2 3\nroom 0 5\nsend 0\ndouble 1\nround 0\ncollect\n#"
	want := []Step{
		{"set", []string{"0", "c", "f", ""}}, {"drop", []string{"-1", "c"}}, {"drop", []string{"1", "c", "f"}}, {"photo", []string{"1", "a b", "x_y"}}, {"import", []string{"0", "a\nb"}}, {"get", []string{"0", "c"}}, {"list", []string{"0"}}, {"view", []string{"0", "c"}},
		{"register", []string{"0"}}, {"revoke", []string{"5"}}, {"poll", []string{"0"}}, {"lose", []string{"1"}}, {"deliver", []string{"1"}}, {"deliver", []string{"1", "-5"}}, {"tick", []string{"999999999999"}}, {"feed", []string{"7"}},
		{"crash", []string{"-1"}}, {"crash", []string{"0", "1", "-2", "3"}}, {"room", []string{"0", "5"}}, {"send", []string{"0"}}, {"double", []string{"1"}}, {"round", []string{"0"}}, {"collect", nil},
	}
	l, n, e := Parse(text)
	if e != api.OK || n != 0 || !reflect.DeepEqual(l, want) {
		t.Errorf("%v %d %v", l, n, e)
	}
	if l, n, e := Parse(""); len(l) != 0 || n != 0 || e != api.OK {
		t.Error("nothing")
	}
	for _, s := range []string{
		"none", "Set 0 c f v", "set 0 c f", "set 0 c f v w", "set x c f v", "set 0 c f a\\", "drop 0", "drop 0 c f x", "photo 0 c", "import 0", "import 0 a b", "get 0", "get 0 c f", "list", "list 0 0", "view 0", "register", "revoke x", "poll", "lose", "lose 1 2", "deliver", "deliver 1 2 3", "deliver 1 x",
		"tick", "tick 1.5", "feed +1", "crash", "crash 0 x", "room 0", "room 0 1 2", "send", "double", "round", "collect 0", "list 1234567890123", "list -1234567890123", "list -", "list --1", "list 0x1", "list 1_0", "list ٣", "world 1 1 1 1", "set 0 \\e\\e f v", "set 0 c\v f",
	} {
		if l, n, e := Parse("collect\n\n" + s + "\nnone"); l != nil || n != 3 || e != api.ESYNTAX {
			t.Errorf("%q: %v %d %v", s, l, n, e)
		}
	}
	if l, _, e := Parse("get 0 c\vd\r"); e != api.OK || l[0].Args[1] != "c\vd\r" {
		t.Error("other blanks are bytes of words")
	}
}

func TestP26_1Limits(t *testing.T) {
	for text, want := range map[string]api.Errno{
		strings.Repeat("\n", 1000): api.OK, strings.Repeat("\n", 1001): api.ELIMIT, strings.Repeat("collect\n", 999) + "collect": api.OK, strings.Repeat("collect\n", 1000) + "x": api.ELIMIT, strings.Repeat("x\n", 1001): api.ELIMIT,
		"#" + strings.Repeat("x", api.MaxScript-1): api.OK, "#" + strings.Repeat("x", api.MaxScript): api.ELIMIT,
	} {
		if l, n, e := Parse(text); n != 0 || e != want || e != api.OK && l != nil {
			t.Errorf("%.20q, %d bytes: %d %v", text, len(text), n, e)
		}
	}
}

func TestP26_2Print(t *testing.T) {
	l := []Step{{"set", []string{"0", "a b", "", "_\n"}}, {"collect", nil}, {"crash", []string{"-1", "5", "0"}}, {"deliver", []string{"3"}}}
	if got := Print(l); got != "set 0 a_b \\e \\_\\n\ncollect\ncrash -1 5 0\ndeliver 3\n" {
		t.Errorf("%q", got)
	}
	Print([]Step{{}, {"x", []string{"y"}}, {"list", nil}, {"list", []string{"1", "2"}}})
	if Print(nil) != "" {
		t.Error("no steps")
	}
}

func TestP26_2NoSteps(t *testing.T) {
	w := world(t)
	for _, s := range []Step{
		{}, {"x", nil}, {"#", nil}, {"collect", []string{"0"}}, {"collect\nlist 0", nil}, {"list", nil}, {"list", []string{"00"}}, {"list", []string{"-0"}}, {"list", []string{""}}, {"list", []string{"0 "}}, {"list", []string{"1234567890123"}}, {"set 0", []string{"c", "f", "v"}},
		{"set", []string{"0", "c", "f"}}, {"set", []string{"0 c", "f", "v"}}, {"import", []string{"0", strings.Repeat("x", api.MaxScript)}}, {"get", []string{"0", "c", ""}},
	} {
		if got := Play(w, s); got != "error 1" {
			t.Errorf("%.40v: %s", s, got)
		}
	}
	if got := Play(w, Step{"import", []string{"0", strings.Repeat("x", api.MaxScript-9)}}); got != "error 2 at 1" {
		t.Error(got)
	}
	if len(w.Device(0).List()) != 0 {
		t.Error("something was done")
	}
}

func TestP26_2Play(t *testing.T) {
	for text, want := range map[string]string{
		"set 0 c fn A\ndrop 0 c fn\ndrop 0 c\nset 0 c \\e x\nset 2 c f v":                                                                       "ok 0.1; ok 0.2; error 4; error 1; error 1",
		"set 0 c b \\e\nset 0 c a x_y\\n\nget 0 c\nget 0 d\nget -1 c":                                                                           "ok 0.1; ok 0.2; ok a=x_y\\n b=\\e; error 4; error 1",
		"list 0\nset 0 b\\_ fn B\nset 0 a tel 1\nlist 0\nlist 2":                                                                                "ok; ok 0.1; ok 0.2; ok b\\_=B a=a; error 1",
		"photo 0 c a_b\nview 0 c\nphoto 0 c \\e\nview 0 c\nview 0 d":                                                                            "ok 0.1; ok a_b; ok 0.2; ok \\e; error 4",
		"import 0 BEGIN:VCARD\\nVERSION:4.0\\nFN:x\\nEND:VCARD\nimport 0 FN:x\nimport 5 x\nimport 0 BEGIN:VCARD\\nx":                            "ok 1; error 3 at 1; error 1 at 0; error 3 at 2",
		"register 0\nregister 2\nrevoke 0\nrevoke -1\nrevoke 1\nsend 0\nsend 1\nsend 9":                                                         "ok; error 1; error 1; error 1; ok; ok 1; ok 0; error 1",
		"register 0\nsend 0\ndouble 1\ndouble 9\nlose 2\nlose 2\ndeliver 1\ndeliver 1\ndeliver 3 5\nround 0\nround 7":                           "ok; ok 1; ok 2; error 4; ok; error 4; ok; error 4; ok; ok 1; error 1",
		"tick 5\ntick -1\nfeed 1\nfeed -1\npoll 0\npoll 5\ncollect\ncrash -1\ncrash 0 1 2\ncrash 5\nroom -1 5\nroom 0 0\nset 0 c f v\nroom 5 5": "ok; error 1; ok; error 1; ok; error 1; ok 0 0; ok; ok; error 1; ok; ok; error 5; error 1",
		"register 0\nset 0 c f v\nround 0\ntick 5000\ncollect":                                                                                  "ok; ok 0.1; ok 2; ok; ok 1 1",
		"set 0 c f v\nset 0 c g w\ndrop 0 c f\nget 0 c":                                                                                         "ok 0.1; ok 0.2; ok 0.3; ok g=w",
		"register 0\nset 0 c f v\nsend 0\ndeliver 1 90\ndeliver 2\nsend 0\npoll 0\nround 0":                                                     "ok; ok 0.1; ok 1; ok; ok; ok 0; ok; ok 2",
		"register 0\nset 0 c f v\nsend 0\ndeliver 1 -7\ndeliver 2 -1\nsend 0":                                                                   "ok; ok 0.1; ok 1; ok; ok; ok 3",
		"drop 0 c \\e\nset 0 c f v\nset 0 c g w\ndrop 0 c \\e":                                                                                  "error 4; ok 0.1; ok 0.2; ok 0.3",
	} {
		if got := play(t, world(t), text); got != want {
			t.Errorf("%q:\n%s, want\n%s", text, got, want)
		}
	}
}

func TestP26_2FeedAndCrashHangOnTheirNumbers(t *testing.T) {
	w := world(t)
	if got := play(t, w, "register 0\nfeed 0\nfeed 2\nsend 0\nlose 1\ntick 10\nsend 0\ntick 3\nsend 0\ntick 1\nsend 0"); got != "ok; ok; ok; ok 1; ok; ok; ok 0; ok; ok 0; ok; ok 2" {
		t.Error(got)
	}
}

func TestP26_3ParseOfPrint(t *testing.T) {
	x := rand.New(rand.NewSource(1))
	word := func() string {
		b := make([]byte, x.Intn(6))
		for i := range b {
			const from = " _\\net\t\n#0a\xff"
			b[i] = from[x.Intn(len(from))]
		}
		return string(b)
	}
	number := func() string { return []string{"0", "-1", "7", "999999999999", "-999999999999"}[x.Intn(5)] }
	for range 500 {
		var l []Step
		for range x.Intn(6) {
			switch x.Intn(5) {
			case 0:
				l = append(l, Step{"set", []string{number(), word(), word(), word()}})
			case 1:
				l = append(l, Step{"drop", []string{number(), word(), word()}[:2+x.Intn(2)]})
			case 2:
				l = append(l, Step{"crash", []string{number(), number(), number()}[:1+x.Intn(3)]})
			case 3:
				l = append(l, Step{"import", []string{number(), word()}})
			case 4:
				l = append(l, Step{Word: "collect"})
			}
		}
		if got, n, e := Parse(Print(l)); e != api.OK || n != 0 || !reflect.DeepEqual(got, l) {
			t.Fatalf("%q: %v", Print(l), got)
		}
	}
}
