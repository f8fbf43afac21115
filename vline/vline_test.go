package vline

import (
	"math/rand"
	"reflect"
	"slices"
	"strings"
	"testing"

	"rolodex/api"
)

// wire has | for a byte 10.
func wire(s string) string { return strings.ReplaceAll(s, "|", "\n") }

func TestExamples(t *testing.T) {
	l, n, e := Read("TEL;TYPE=home:12")
	if e != api.OK || n != 0 || !reflect.DeepEqual(l, []Line{{"", "tel", []Param{{"type", []string{"home"}}}, "12", 1}}) {
		t.Errorf("%v", l)
	}
	if l, n, e := Read(wire("A:1|B")); l != nil || n != 2 || e != api.ESYNTAX {
		t.Errorf("%d %v", n, e)
	}
	x := strings.Repeat("x", 76)
	if f := Fold(x); f != x[:75]+"\r\n x" {
		t.Errorf("%q", f)
	}
	if Escape("a,b") != `a\,b` {
		t.Error("Escape")
	}
}

func TestP23_1Unfold(t *testing.T) {
	for s, want := range map[string]struct {
		lines   []string
		numbers []int
	}{
		"": {nil, nil}, "a": {[]string{"a"}, []int{1}}, "a|": {[]string{"a"}, []int{1}}, "a\r|b": {[]string{"a", "b"}, []int{1, 2}}, "|": {[]string{""}, []int{1}}, "||a": {[]string{"", "", "a"}, []int{1, 2, 3}},
		"a| b|\tc|d": {[]string{"abc", "d"}, []int{1, 4}}, " a|b": {[]string{" a", "b"}, []int{1, 2}}, " a| b": {[]string{" ab"}, []int{1}}, "a|  b": {[]string{"a b"}, []int{1}}, "a| |b": {[]string{"a", "b"}, []int{1, 3}},
		"a||b": {[]string{"a", "", "b"}, []int{1, 2, 3}}, "a|| b": {[]string{"a", "b"}, []int{1, 2}}, "a\r": {[]string{"a\r"}, []int{1}}, "a\r\r|b\rc": {[]string{"a\r", "b\rc"}, []int{1, 2}}, "\xc3| \xa4": {[]string{"ä"}, []int{1}},
	} {
		lines, numbers := Unfold(wire(s))
		if !slices.Equal(lines, want.lines) || !slices.Equal(numbers, want.numbers) {
			t.Errorf("%q: %q %v", s, lines, numbers)
		}
	}
}

func TestP23_1Read(t *testing.T) {
	long := strings.Repeat("n", 20)
	for s, want := range map[string][]Line{
		"": nil, "||\r|": nil, "A:": {{Name: "a", At: 1}}, "|Ab-1:x:y;z,\"\t|": {{Name: "ab-1", Value: "x:y;z,\"\t", At: 2}},
		"G1.N;P=a,,b;Q=\"x,y;z:\",\"\":v": {{"g1", "n", []Param{{"p", []string{"a", "", "b"}}, {"q", []string{"x,y;z:", ""}}}, "v", 1}},
		"N;P=:v":                          {{"", "n", []Param{{"p", []string{""}}}, "v", 1}}, "N;P=a=b\t :v": {{"", "n", []Param{{"p", []string{"a=b\t "}}}, "v", 1}}, long + "." + long + ";" + long + "=ä:ö": {{long, long, []Param{{long, []string{"ä"}}}, "ö", 1}},
		"A:b| c|D:\xc3| \xa4": {{Name: "a", Value: "bc", At: 1}, {Name: "d", Value: "ä", At: 3}}, "-:x": {{Name: "-", Value: "x", At: 1}}, "aZz-09.AZz-09:x": {{Group: "azz-09", Name: "azz-09", Value: "x", At: 1}},
		"N;P=\"a\";P=b:v": {{"", "n", []Param{{"p", []string{"a"}}, {"p", []string{"b"}}}, "v", 1}},
	} {
		l, n, e := Read(wire(s))
		if e != api.OK || n != 0 || !reflect.DeepEqual(l, want) {
			t.Errorf("%q: %v %d %v", s, l, n, e)
		}
	}
	for _, s := range []string{
		"A", ":", ":x", ".A:x", "G.:x", "G.H.A:x", "A B:x", "A_:x", "Ä:x", long + "n:x", long + "n.A:x", "A;:x", "A;P:x", "A;=v:x", "A;P=v", "A;P=\"v:x", "A;P=\"v\"w:x", "A;P=v\"w:x", "A;P=\"v\"", "A;P=v;:x", "A;P Q=v:x", "A;" + long + "n=v:x",
		"A:\x00", "A:\x1f", "A:\x7f", "A:\xff", "A:\xc3", "A;P=\x01:x", "A;P=\"\x7f\":x", "A:a\rb", "A;P=\xe4:x", "A;P=\"\x1f\":", "A;P=v,:\x01",
	} {
		if l, n, e := Read("OK:1\n\n" + s); l != nil || n != 3 || e != api.ESYNTAX {
			t.Errorf("%q: %v %d %v", s, l, n, e)
		}
	}
}

func TestP23_1Limit(t *testing.T) {
	v := strings.Repeat("v", 910)
	if l, _, e := Read("A:" + v); e != api.OK || len(l) != 1 {
		t.Error("a line of 912 bytes")
	}
	if _, n, e := Read(" A:x"); n != 1 || e != api.ESYNTAX {
		t.Error("a first line that begins with a blank")
	}
	for s, want := range map[string]struct {
		n int
		e api.Errno
	}{
		"A:1|B:" + v + "v": {2, api.ELIMIT}, "A:1|" + v + v: {2, api.ELIMIT}, "x|B:" + v + "v": {1, api.ESYNTAX}, "B:" + v + "| v|x": {1, api.ELIMIT}, "B:" + v + "v|x": {1, api.ELIMIT}, "\xff" + v + "vv": {1, api.ELIMIT},
	} {
		if l, n, e := Read(wire(s)); l != nil || n != want.n || e != want.e {
			t.Errorf("%.10q: %d %v", s, n, e)
		}
	}
	if l, _, e := Read("A:" + v[:455] + "\r\n " + v[:455]); e != api.OK || len(l) != 1 {
		t.Error("folds do not count")
	}
}

func TestP23_2Print(t *testing.T) {
	for _, c := range []struct {
		l    Line
		want string
	}{
		{Line{Name: "fn", Value: "x", At: 9}, "FN:x"}, {Line{"g-1", "tel", []Param{{"type", []string{"a", "", "b;c", "d:", "e,"}}, {"x", []string{"ä b"}}}, ":;,\"", 0}, "g-1.TEL;TYPE=a,,\"b;c\",\"d:\",\"e,\";X=ä b::;,\""},
		{Line{Name: "az-09"}, "AZ-09:"}, {Line{Name: "a", Value: strings.Repeat("v", 100)}, "A:" + strings.Repeat("v", 73) + "\r\n " + strings.Repeat("v", 27)},
	} {
		if s, e := Print(c.l); e != api.OK || s != c.want+"\r\n" {
			t.Errorf("%v: %q %v", c.l, s, e)
		}
	}
	long := strings.Repeat("n", 21)
	for _, l := range []Line{
		{}, {Name: "A"}, {Name: "a", Group: "G"}, {Name: "a b"}, {Name: long}, {Name: "a", Group: long}, {Name: "a."}, {Name: "a", Value: "\n"}, {Name: "a", Value: "\x7f"}, {Name: "a", Value: "\xff"}, {Name: "a", Value: strings.Repeat("\x01", 2000)},
		{Name: "a", Params: []Param{{"p", nil}}}, {Name: "a", Params: []Param{{"P", []string{"x"}}}}, {Name: "a", Params: []Param{{"", []string{"x"}}}}, {Name: "a", Params: []Param{{"p", []string{`"`}}}}, {Name: "a", Params: []Param{{"p", []string{"ok", "\x00"}}}}, {Name: "a", Params: []Param{{"p", []string{"\xc3"}}}},
	} {
		if s, e := Print(l); s != "" || e != api.EARG {
			t.Errorf("%.40v: %q %v", l, s, e)
		}
	}
	if _, e := Print(Line{Name: "a", Value: strings.Repeat("v", 910)}); e != api.OK {
		t.Error("a line of 912 bytes")
	}
	if s, e := Print(Line{Name: "a", Value: strings.Repeat("v", 911)}); s != "" || e != api.ELIMIT {
		t.Error("a line of 913 bytes")
	}
}

func TestP23_2Fold(t *testing.T) {
	a := strings.Repeat("a", 74)
	for s, want := range map[string]string{
		"": "", a: a, a + "b": a + "b", a + "ä": a + "\r\n ä", a + "b" + a: a + "b\r\n " + a, a + "b" + a + "c": a + "b\r\n " + a + "\r\n c", a + "b" + a[1:] + "ä": a + "b\r\n " + a[1:] + "\r\n ä",
		a + "\xc3": a + "\xc3", a + "\xe2\x82": a + "\xe2\r\n \x82", a[2:] + "€": a[2:] + "€", a[1:] + "€": a[1:] + "\r\n €", a[1:] + "\U0001F600": a[1:] + "\r\n \U0001F600",
	} {
		if got := Fold(s); got != want {
			t.Errorf("%q: %q", s, got)
		}
	}
}

func TestP23_3Escapes(t *testing.T) {
	for s, want := range map[string]string{"": "", `a\b;c,d:e`: `a\\b\;c\,d:e`, "a\nb\r": "a\\nb\r", "ä\x00\xff": "ä\x00\xff"} {
		if got := Escape(s); got != want {
			t.Errorf("Escape(%q): %q", s, got)
		}
	}
	for s, want := range map[string]string{"": "", `\\\,\;\:\n\N`: "\\,;:\n\n", "a,b;c": "a,b;c", `\\n`: `\n`} {
		if got, e := Unescape(s); got != want || e != api.OK {
			t.Errorf("Unescape(%q): %q %v", s, got, e)
		}
	}
	for _, s := range []string{`\`, `a\`, `\a`, `\t`, `\\\`, `ok\"`, "\\\n", `x\ `} {
		if got, e := Unescape(s); got != "" || e != api.EFORM {
			t.Errorf("Unescape(%q): %q %v", s, got, e)
		}
	}
	for _, c := range []struct {
		s    string
		by   byte
		want []string
	}{
		{"", ';', []string{""}}, {";", ';', []string{"", ""}}, {`a;b\;c\\;d\\\;e`, ';', []string{"a", `b\;c\\`, `d\\\;e`}}, {"a,b;c", ',', []string{"a", "b;c"}}, {`a\b`, '\\', []string{"a", "b"}}, {`a\\b`, '\\', []string{"a", `\b`}}, {"aa", 'a', []string{"", "", ""}},
	} {
		if got := Split(c.s, c.by); !slices.Equal(got, c.want) {
			t.Errorf("Split(%q, %q): %q", c.s, c.by, got)
		}
	}
}

func TestP23_4RoundTrips(t *testing.T) {
	r := rand.New(rand.NewSource(7))
	text := func(n int, from ...string) string {
		var s string
		for range r.Intn(n) {
			s += from[r.Intn(len(from))]
		}
		return s
	}
	name := func() string { return "n" + text(19, "a", "z", "0", "-") }
	for range 2000 {
		l := Line{Name: name(), Value: text(200, "a", "ä", "€", "\U0001F600", ",", ";", ":", `"`, "\\", " ", "\t")}
		if r.Intn(2) == 0 {
			l.Group = name()
		}
		for range r.Intn(3) {
			p := Param{Name: name()}
			for range 1 + r.Intn(3) {
				p.Values = append(p.Values, text(9, "a", "ä", ",", ";", ":", " ", "="))
			}
			l.Params = append(l.Params, p)
		}
		s, e := Print(l)
		if e != api.OK {
			continue
		}
		l.At = 1
		if got, _, e := Read(s); e != api.OK || len(got) != 1 || !reflect.DeepEqual(got[0], l) {
			t.Fatalf("%q: %v", s, got)
		}
		for _, piece := range strings.Split(s, "\r\n") {
			if len(piece) > 75 {
				t.Fatalf("%q", piece)
			}
		}
		x := "x" + text(300, "a", "ä", "\xff", "\xc3", "\r", " ", "\t")
		if got, _ := Unfold(Fold(x) + "\r\n"); !slices.Equal(got, []string{x}) {
			t.Fatalf("%q: %q", x, got)
		}
		y := text(50, "a", "\\", ",", ";", ":", "\n", "n", "\r")
		if got, e := Unescape(Escape(y)); got != y || e != api.OK || strings.Contains(Escape(y), "\n") {
			t.Fatalf("%q: %q", y, got)
		}
	}
}
