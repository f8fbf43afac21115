package vcard

import (
	"fmt"
	"math"
	"math/rand"
	"reflect"
	"strings"
	"testing"

	"rolodex/api"
	"rolodex/sha"
	"rolodex/vline"
)

// wire has | for a byte 10.
func wire(s string) string { return strings.ReplaceAll(s, "|", "\n") }

func whole(lines string) string { return wire("BEGIN:VCARD|VERSION:4.0|" + lines + "|END:VCARD|") }

func fields(t *testing.T, lines string) []Pair {
	t.Helper()
	l, n, e := Import(whole(lines))
	if e != api.OK || n != 0 || len(l) != 1 {
		t.Fatalf("%q: %d %v", lines, n, e)
	}
	return l[0].Fields
}

func TestExamples(t *testing.T) {
	got := fields(t, `FN:Ann\, B|TEL;TYPE=home:1|TEL;TYPE=home:2`)
	if !reflect.DeepEqual(got, []Pair{{"fn", "Ann, B"}, {"tel;type=home", "1"}, {"tel;type=home#2", "2"}}) {
		t.Errorf("%q", got)
	}
	for s, want := range map[string]int{"BEGIN:VCARD|FN:x": 2, "FN:x": 1} {
		if l, n, e := Import(wire(s)); l != nil || n != want || e != api.ESYNTAX {
			t.Errorf("%q: %d %v", s, n, e)
		}
	}
}

func TestP24_1Cards(t *testing.T) {
	if l, n, e := Import(""); len(l) != 0 || n != 0 || e != api.OK {
		t.Error("no cards")
	}
	l, n, e := Import(wire("|begin:vCard|VERSION:4.0|FN:a|End:VCARD||BEGIN:VCARD|version:4.0|end:vcard"))
	if e != api.OK || n != 0 || len(l) != 2 || l[0].At != 2 || l[1].At != 7 || len(l[0].Fields) != 1 || len(l[1].Fields) != 0 {
		t.Errorf("%v %d %v", l, n, e)
	}
	for s, want := range map[string]int{
		"BEGIN:VCARD": 1, "|BEGIN:VCARD|VERSION:4.0|FN:x": 2, "BEGIN:VCARD|VERSION:3.0|END:VCARD": 2, "BEGIN:VCARD|FN:x|VERSION:4.0|END:VCARD": 2, "BEGIN:VCARD|END:VCARD": 2, "BEGIN:CARD|VERSION:4.0|END:VCARD": 1, "BEGIN;X=y:VCARD|VERSION:4.0|END:VCARD": 1,
		"g.BEGIN:VCARD|VERSION:4.0|END:VCARD": 1, "BEGIN:VCARD|VERSION;X=y:4.0|END:VCARD": 2, "BEGIN:VCARD|g.VERSION:4.0|END:VCARD": 2, "BEGIN:VCARD|VERSION:4.0|END:CARD|END:VCARD": 3, "BEGIN:VCARD|VERSION:4.0|g.END:VCARD|END:VCARD": 3, "BEGIN:VCARD|VERSION:4.0|END;X=y:VCARD|END:VCARD": 3,
		"BEGIN:VCARD|VERSION:4.0|FN:x|VERSION:4.0|END:VCARD": 4, "BEGIN:VCARD|VERSION:4.0|BEGIN:VCARD|VERSION:4.0|END:VCARD|END:VCARD": 3, "BEGIN:VCARD|VERSION:4.0|g.begin:x|END:VCARD": 3, "BEGIN:VCARD|VERSION:4.0|END:VCARD|FN:x": 4, "BEGIN:VCARD|VERSION:4.0|END:VCARD|END:VCARD": 4,
		"BEGIN:VCARD|VERSION:4.0|Raw.FN:x|END:VCARD": 3, "BEGIN:VCARD|VERSION:4.0|raw.X:x|END:VCARD": 3, "BEGIN:VCARD|VERSION:4.0|END:VCARD|BEGIN:VCARD|VERSION:4.0": 4, "BEGIN: VCARD|": 1, "BEGIN:VCARD|VERSION:4.0 |": 2,
	} {
		if l, n, e := Import(wire(s)); l != nil || n != want || e != api.ESYNTAX {
			t.Errorf("%q: %d %v, want %d", s, n, e, want)
		}
	}
}

func TestP24_1Errors(t *testing.T) {
	long := strings.Repeat("v", 513)
	name := strings.Repeat("n", 20)
	params := ";" + name + "=" + name + ";" + name + "="
	for s, want := range map[string]struct {
		n int
		e api.Errno
	}{
		"FN:x|nonsense|": {2, api.ESYNTAX}, "FN:x|A:" + long + long: {2, api.ELIMIT},
		"BEGIN:VCARD|VERSION:4.0|FN:" + long + "|END:VCARD|FN:x": {5, api.ESYNTAX}, "BEGIN:VCARD|VERSION:4.0|FN:" + long + "|END:VCARD": {3, api.ELIMIT}, "BEGIN:VCARD|VERSION:4.0|FN:" + long[1:] + "|END:VCARD|BEGIN:VCARD|VERSION:4.0|X:" + long + "|END:VCARD": {7, api.ELIMIT},
		"BEGIN:VCARD|VERSION:4.0|X" + params + "1:v|END:VCARD": {3, api.ELIMIT}, "BEGIN:VCARD|VERSION:4.0|X" + params[1:] + ":v|END:VCARD": {3, api.ESYNTAX},
		"BEGIN:VCARD|VERSION:4.0|FN:" + strings.Repeat(`\,`, 400) + "|END:VCARD": {0, api.OK}, "BEGIN:VCARD|VERSION:4.0|X:" + strings.Repeat(`\,`, 400) + "|END:VCARD": {3, api.ELIMIT},
	} {
		if _, n, e := Import(wire(s)); n != want.n || e != want.e {
			t.Errorf("%.70q: %d %v, want %v", s, n, e, want)
		}
	}
	base := "x;" + name + "=" + strings.Repeat("p", 41)
	if got := fields(t, base+":1|Y:2"); len(got[0].Field) != 64 {
		t.Errorf("%d bytes", len(got[0].Field))
	}
	if _, n, e := Import(whole(base + ":1|" + base + ":2")); n != 4 || e != api.ELIMIT {
		t.Error("a number makes a name too long")
	}
}

func TestP24_1Fields(t *testing.T) {
	for lines, want := range map[string][]Pair{
		"G.Tel;Type=a,b;X=\"c,d\",\"e#\",f:1":             {{`g.tel;type=a,b;x="c,d","e#",f`, "1"}},
		"TEL:1|tel:2|TEL:a,b|TEL:3|TEL:c,d":               {{"tel", "1"}, {"tel#2", "2"}, {"raw.tel", "a,b"}, {"tel#3", "3"}, {"raw.tel#2", "c,d"}},
		`NOTE:a\nb\\|NOTE:a\Nb|NOTE:a\:b|NOTE:a\|NOTE:\x`: {{"note", "a\nb\\"}, {"raw.note", `a\Nb`}, {"raw.note#2", `a\:b`}, {"raw.note#3", `a\`}, {"raw.note#4", `\x`}},
		`X:a\,b|G.ORG:a;b|N:a;b`:                          {{"x", `a\,b`}, {"raw.g.org", "a;b"}, {"n", "a;b"}},
		"X;P=:1|X;P=\"\":2|X;P=a#b:3":                     {{"x;p=", "1"}, {"x;p=#2", "2"}, {`x;p="a#b"`, "3"}},
		"FN:a|NICKNAME:a\\,|TEL:a\\,|EMAIL:a\\,|NOTE:a\\,|ORG:a\\,|TITLE:a\\,|ROLE:a\\,|CATEGORIES:a\\,|ADR:a\\,": {{"fn", "a"}, {"nickname", "a,"}, {"tel", "a,"}, {"email", "a,"}, {"note", "a,"}, {"org", "a,"}, {"title", "a,"}, {"role", "a,"}, {"categories", "a,"}, {"adr", "a\\,"}},
	} {
		if got := fields(t, lines); !reflect.DeepEqual(got, want) {
			t.Errorf("%q: %q", lines, got)
		}
	}
}

func TestP24_1Contacts(t *testing.T) {
	long := strings.Repeat("u", 65)
	hash := func(l ...string) string {
		return "c-" + sha.Hex(sha.Sum([]byte(strings.Join(l, "\x00") + "\x00")))[:16]
	}
	for lines, want := range map[string]string{
		"UID:abc|UID:d": "abc", "g.UID:x|UID;P=q:y": "y", `UID:a\,b`: `a\,b`, "UID:" + long[1:]: long[1:], "UID:" + long: hash("uid", long), "UID:|UID:x": hash("uid", "", "uid#2", "x"), `FN:a\,b|TEL:1|TEL:2`: hash("fn", "a,b", "tel", "1", "tel#2", "2"), "g.UID:x": hash("g.uid", "x"),
	} {
		if l, _, e := Import(whole(lines)); e != api.OK || l[0].Contact != want {
			t.Errorf("%q: %v", lines, l)
		}
	}
	if l, _, _ := Import(wire("BEGIN:VCARD|VERSION:4.0|END:VCARD")); l[0].Contact != "c-"+sha.Hex(sha.Sum(nil))[:16] {
		t.Error("a card of nothing")
	}
}

func TestP24_2LineAndField(t *testing.T) {
	for p, want := range map[Pair]vline.Line{
		{"fn", "a,b\n"}: {Name: "fn", Value: `a\,b\n`}, {"x", `a,b\`}: {Name: "x", Value: `a,b\`}, {"raw.fn", "a,b"}: {Name: "fn", Value: "a,b"}, {"raw.g.tel;p=q#2", `\`}: {Group: "g", Name: "tel", Params: []vline.Param{{Name: "p", Values: []string{"q"}}}, Value: `\`},
		{`g.x;p=a,"b,c","d#2",;q=#17`, "v"}: {Group: "g", Name: "x", Params: []vline.Param{{Name: "p", Values: []string{"a", "b,c", "d#2", ""}}, {Name: "q", Values: []string{""}}}, Value: "v"}, {"x#9223372036854775807", ""}: {Name: "x"},
	} {
		l, e := Line(p)
		if e != api.OK || !reflect.DeepEqual(l, want) || !Good(p) {
			t.Errorf("%q: %v %v", p, l, e)
		}
		_, n, _ := cutNumber(p.Field)
		if got, ok := Field(want, n-1); got != p || !ok {
			t.Errorf("Field(%v): %q", want, got)
		}
	}
	for _, p := range []Pair{
		{"", "x"}, {"begin", "x"}, {"version", "x"}, {"end", "x"}, {"g.end", "x"}, {"end#2", "x"}, {"raw.begin", "x"}, {"FN", "x"}, {"raw.x", "x"}, {"raw.fn", "x"}, {"raw.raw.fn", "a,b"}, {"raw.uid", "a,b"}, {".fn", "x"}, {"g.", "x"}, {"a.b.c", "x"}, {"a b", "x"}, {"ä", "x"},
		{"x#", "v"}, {"x#1", "v"}, {"x#0", "v"}, {"x#02", "v"}, {"x#+2", "v"}, {"x#-2", "v"}, {"x#2#3", "v"}, {"x#9223372036854775808", "v"}, {"x#2;p=q", "v"}, {"x;p", "v"}, {"x;", "v"}, {"x;p=q;", "v"}, {"x;=q", "v"}, {`x;p="q"`, "v"}, {`x;p="a,b`, "v"}, {`x;p="a,b"c`, "v"}, {`x;p=a:b`, "v"},
		{`x;p="`, "v"}, {`x;p=a"b`, "v"}, {"x;P=q", "v"}, {"x;p=\n", "v"}, {"x", "\n"}, {"x", "\x7f"}, {"x", "\xff"}, {"fn", "\r"}, {"x:y", "v"}, {"x;p=q:", "v"}, {"x", strings.Repeat("v", 2000)}, {"fn", strings.Repeat(",", 460)},
	} {
		if l, e := Line(p); e != api.EARG || !reflect.DeepEqual(l, vline.Line{}) || Good(p) {
			t.Errorf("%.40q: %v %v", p, l, e)
		}
	}
	if Good(Pair{"x", strings.Repeat("v", 513)}) || !Good(Pair{"x", strings.Repeat("v", 512)}) || Good(Pair{"x;p=" + strings.Repeat("q", 61), ""}) || !Good(Pair{"x;p=" + strings.Repeat("q", 60), ""}) {
		t.Error("lengths")
	}
	if _, e := Line(Pair{"x", strings.Repeat("v", 513)}); e != api.OK {
		t.Error("Line asks no lengths but vline's")
	}
	many := vline.Line{Name: "x", Params: []vline.Param{{Name: "p", Values: strings.Split(strings.Repeat("#,", 440)+"#", ",")}}}
	if p, ok := Field(many, 0); !ok || len(p.Field) < 1300 {
		t.Error("a long name")
	} else if l, e := Line(p); e != api.OK || !reflect.DeepEqual(l, many) {
		t.Error("a long name's line")
	}
}

func TestP24_2FieldRefused(t *testing.T) {
	for _, l := range []vline.Line{{}, {Name: "FN"}, {Name: "begin"}, {Name: "version"}, {Name: "end", Group: "g"}, {Name: "fn", Group: "raw"}, {Name: "x", Value: "\n"}, {Name: "x", Value: strings.Repeat("v", 911)}} {
		if p, ok := Field(l, 0); ok || p != (Pair{}) {
			t.Errorf("%.40v has a field", l)
		}
	}
	l := vline.Line{Name: "x", Value: strings.Repeat("v", 910), At: 5}
	if p, ok := Field(l, 0); !ok || p.Field != "x" {
		t.Error("its lengths are not asked")
	}
	for ahead, want := range map[int]string{0: "x", 1: "x#2", 99: "x#100", math.MaxInt: "x#9223372036854775808", -1: "", math.MinInt: ""} {
		if p, ok := Field(l, ahead); p.Field != want || ok != (ahead >= 0) {
			t.Errorf("%d ahead: %q", ahead, p.Field)
		}
	}
}

func TestP24_2Export(t *testing.T) {
	s, e := Export(Card{Contact: "any", Fields: []Pair{{"fn", "Ann, B"}, {"tel", "1"}, {"raw.tel", "1,2"}, {"tel#2", "2"}, {"g.x;p=q", "v"}}})
	if want := strings.ReplaceAll(whole(`FN:Ann\, B|TEL:1|TEL:1,2|TEL:2|g.X;P=q:v`), "\n", "\r\n"); e != api.OK || s != want {
		t.Errorf("%q", s)
	}
	if s, e := Export(Card{}); e != api.OK || s != "BEGIN:VCARD\r\nVERSION:4.0\r\nEND:VCARD\r\n" {
		t.Errorf("%q", s)
	}
	for _, l := range [][]Pair{
		{{"FN", "x"}}, {{"end", "x"}}, {{"x", "\n"}}, {{"x", "1"}, {"x", "2"}}, {{"x#2", "1"}}, {{"x", "1"}, {"x#3", "2"}}, {{"x#2", "1"}, {"x", "2"}}, {{"x", "1"}, {"x#2", "2"}, {"x#2", "3"}}, {{"tel", "1"}, {"raw.tel#2", "1,2"}}, {{"x", strings.Repeat("v", 513)}}, {{"x#1", "v"}},
	} {
		if s, e := Export(Card{Fields: l}); s != "" || e != api.EARG {
			t.Errorf("%.50q: %v", l, e)
		}
	}
}

func TestP24_3AndT7(t *testing.T) {
	r := rand.New(rand.NewSource(3))
	pick := func(l ...string) string { return l[r.Intn(len(l))] }
	text := func(n int, from ...string) string {
		var s string
		for range r.Intn(n) {
			s += pick(from...)
		}
		return s
	}
	for range 3000 {
		var b strings.Builder
		for range 1 + r.Intn(3) {
			b.WriteString("BEGIN:VCARD\nVERSION:4.0\n")
			for range r.Intn(6) {
				b.WriteString(pick("", "", "g.", "Item1.") + pick("FN", "tel", "Note", "UID", "X-a") + pick("", "", ";TYPE=a", ";P=\"a,b\";Q=x#y,") + ":" + text(60, "a", "ä", ",", ";", ":", `\n`, `\,`, `\`, `\N`, " ", "\r\n ", "\n\t") + "\r\n")
			}
			b.WriteString("END:vcard\r\n")
		}
		s := b.String()
		if r.Intn(3) == 0 {
			i := r.Intn(len(s))
			s = s[:i] + text(3, "\n", "x", ":", "\xff", " ") + s[min(len(s), i+r.Intn(3)):]
		}
		cards, n, e := Import(s)
		if e != api.OK {
			if cards != nil || n < 1 || n > strings.Count(s, "\n")+1 || e != api.ESYNTAX && e != api.ELIMIT {
				t.Fatalf("%q: %d %v", s, n, e)
			}
			continue
		}
		for _, c := range cards {
			out, e := Export(c)
			if e != api.OK {
				t.Fatalf("%v: %v", c, e)
			}
			for _, line := range strings.Split(out, "\r\n") {
				if len(line) > 75 {
					t.Fatalf("%q", line)
				}
			}
			again, _, e := Import(out)
			if e != api.OK || len(again) != 1 || again[0].Contact != c.Contact || fmt.Sprint(again[0].Fields) != fmt.Sprint(c.Fields) {
				t.Fatalf("%q: %v", out, again)
			}
		}
	}
}
