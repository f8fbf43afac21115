package httpwire

import (
	"fmt"
	"math/rand"
	"reflect"
	"strings"
	"testing"

	"rolodex/api"
)

// wire has | for a line end.
func wire(s string) []byte { return []byte(strings.ReplaceAll(s, "|", "\r\n")) }

func TestExamples(t *testing.T) {
	b, e := PrintRequest(Request{"GET", "/a", []Header{{"X", "1"}}, nil})
	if e != api.OK || string(b) != string(wire("GET /a HTTP/1.1|X: 1|Content-Length: 0||")) {
		t.Errorf("%q", b)
	}
	if _, n, e := ReadRequest([]byte("GET /a HTTP/1.1")); n != 0 || e != api.EORDER {
		t.Error(e)
	}
	if _, n, e := ReadRequest(wire("get / HTTP/1.1|")); n != 0 || e != api.EFORM {
		t.Error(e)
	}
}

func TestP17_1FirstLines(t *testing.T) {
	long := strings.Repeat("x", 200)
	for s, want := range map[string]api.Errno{
		"GET / HTTP/1.1||": api.OK, "ABCDEFGH /!~ HTTP/1.1||": api.OK, "XYZ / HTTP/1.1||": api.OK, "A[ / HTTP/1.1||": api.EFORM, "A@ / HTTP/1.1||": api.EFORM, "G /" + long + " HTTP/1.1||": api.OK,
		"G /" + long + "x HTTP/1.1||": api.EFORM, "ABCDEFGHI / HTTP/1.1||": api.EFORM, " / HTTP/1.1||": api.EFORM, "G  / HTTP/1.1||": api.EFORM,
		"G / HTTP/1.0||": api.EFORM, "G / HTTP/1.1 ||": api.EFORM, "G a HTTP/1.1||": api.EFORM, "G1 / HTTP/1.1||": api.EFORM, "G /\x7f HTTP/1.1||": api.EFORM,
		"G /\xc3\xa4 HTTP/1.1||": api.EFORM, "||": api.EFORM, "|": api.EFORM, "G / HTTP/1.1\n|": api.EFORM, "G / HTTP/1.1": api.EORDER, "": api.EORDER, "nonsense": api.EORDER,
		"G / HTTP/1.1\r": api.EORDER, "G / HTTP/1.1|": api.EORDER, "G / HTTP/1.1|\r": api.EORDER, "G / HTTP/1.1|bad line": api.EORDER, "G / HTTP/1.1|bad line|": api.EFORM,
	} {
		r, n, e := ReadRequest(wire(s))
		if e != want || e != api.OK && (n != 0 || !reflect.DeepEqual(r, Request{})) || e == api.OK && n != len(wire(s)) {
			t.Errorf("%q: %v", s, e)
		}
	}
	for s, code := range map[string]int{
		"HTTP/1.1 100 ||": 100, "HTTP/1.1 599  any ~words||": 599, "HTTP/1.1 099 x||": 0, "HTTP/1.1 600 x||": 0, "HTTP/1.1 200||": 0,
		"HTTP/1.1  200 x||": 0, "HTTP/1.1 2000 x||": 0, "HTTP/1.1 20a x||": 0, "HTTP/1.1 200 \tx||": 0, "http/1.1 200 x||": 0, "HTTP/1.1 +20 x||": 0, "HTTP/1.1||": 0, "HTTP/1.1 ||": 0,
	} {
		r, n, e := ReadResponse(wire(s))
		if r.Code != code || (e == api.OK) != (code > 0) || code == 0 && (e != api.EFORM || n != 0) {
			t.Errorf("%q: %d %v", s, r.Code, e)
		}
	}
}

func TestP17_1Headers(t *testing.T) {
	r, n, e := ReadRequest(wire("GET / HTTP/1.1|a-Z0:  \t v \t w \t |B:|" + strings.Repeat("n", 40) + ":x:y|a-z0: 2||rest"))
	want := []Header{{"a-Z0", "v \t w"}, {"B", ""}, {strings.Repeat("n", 40), "x:y"}, {"a-z0", "2"}}
	if e != api.OK || !reflect.DeepEqual(r.Headers, want) || n != len(wire("GET / HTTP/1.1|a-Z0:  \t v \t w \t |B:|"+strings.Repeat("n", 40)+":x:y|a-z0: 2||")) {
		t.Errorf("%q %v", r.Headers, e)
	}
	for _, h := range []string{"a", ":", ": x", "a : x", " a: x", strings.Repeat("n", 41) + ": x", "a_b: x", "a: \x01", "a: \x7f", "a: \xc3\xa4", "a: b\rc", "a: b\nc", "ä: x"} {
		if _, n, e := ReadRequest(wire("GET / HTTP/1.1|" + h + "||")); n != 0 || e != api.EFORM {
			t.Errorf("%q: %v", h, e)
		}
	}
	for n, want := range map[int]api.Errno{32: api.OK, 33: api.ELIMIT} {
		if _, _, e := ReadRequest(wire("GET / HTTP/1.1|" + strings.Repeat("a:|", n) + "|")); e != want {
			t.Errorf("%d lines: %v", n, e)
		}
	}
	if _, _, e := ReadRequest(wire("GET / HTTP/1.1|" + strings.Repeat("a:|", 32) + "wrong|")); e != api.ELIMIT {
		t.Error("a 33rd line that is wrong")
	}
	if _, _, e := ReadRequest(wire("GET / HTTP/1.1|" + strings.Repeat("a:|", 32) + "wrong")); e != api.EORDER {
		t.Error("a 33rd line without an end")
	}
}

func TestP17_1HeadLimit(t *testing.T) {
	// A head of n bytes in all.
	head := func(n int) string {
		s := "GET / HTTP/1.1\r\na: 1\r\nb: "
		return s + strings.Repeat("x", n-len(s)-4) + "\r\n\r\n"
	}
	for _, c := range []struct {
		b    string
		want api.Errno
	}{
		{head(2048), api.OK}, {head(2049), api.ELIMIT}, {head(2050), api.ELIMIT}, {head(2051), api.ELIMIT}, {head(3000), api.ELIMIT},
		{head(2049)[:2048], api.ELIMIT}, {head(2049)[:2047], api.EORDER}, {head(2048)[:2047], api.EORDER}, {strings.Repeat("x", 2047), api.EORDER},
		{strings.Repeat("x", 2048), api.ELIMIT}, {"bad\r\n" + strings.Repeat("x", 5000), api.EFORM}, {"GET / HTTP/1.1\r\nbad\r\n" + strings.Repeat("x", 5000), api.EFORM},
		{"GET / HTTP/1.1\r\na:b\r\n" + strings.Repeat("x", 5000), api.ELIMIT},
	} {
		if _, _, e := ReadRequest([]byte(c.b)); e != c.want {
			t.Errorf("%d bytes: %v, want %v", len(c.b), e, c.want)
		}
	}
}

func TestP17_1Lengths(t *testing.T) {
	big := strings.Repeat("b", api.MaxBody)
	for _, c := range []struct {
		s, body string
		want    api.Errno
	}{
		{"|more", "", api.OK}, {"content-length: 3||abcd", "abc", api.OK}, {"Content-Length:3||ab", "", api.EORDER}, {"Content-Length: 000000003||abc", "abc", api.OK},
		{"Content-Length: 0000000003||abc", "", api.EFORM}, {"Content-Length: ||", "", api.EFORM}, {"Content-Length: +1||a", "", api.EFORM}, {"Content-Length: -1||a", "", api.EFORM},
		{"Content-Length: 1 2||a", "", api.EFORM}, {"Content-Length: 1|content-length: 1||a", "", api.EFORM}, {"Content-Length: 16385||", "", api.ELIMIT}, {"Content-Length: 999999999||", "", api.ELIMIT},
		{"Content-Length: 16384||" + big, big, api.OK}, {"Content-Length: 16384||" + big[1:], "", api.EORDER}, {"Content-Length: x|wrong||", "", api.EFORM},
		{"Content-Length: x|", "", api.EORDER},
	} {
		r, n, e := ReadRequest(wire("P / HTTP/1.1|" + c.s))
		if e != c.want || string(r.Body) != c.body || (n > 0) != (e == api.OK) {
			t.Errorf("%.40q: %v %q", c.s, e, r.Body)
		}
	}
}

func TestP17_1Chunks(t *testing.T) {
	big := strings.Repeat("b", api.MaxBody)
	for _, c := range []struct {
		s, body string
		want    api.Errno
	}{
		{"0||", "", api.OK}, {"3|abc|0||", "abc", api.OK}, {"3|abc|00000002|de|00000000||rest", "abcde", api.OK}, {"A|0123456789|0||", "0123456789", api.OK}, {"a|0123456789|0||", "0123456789", api.OK},
		{"000000003|abc|0||", "", api.EFORM}, {"|abc|0||", "", api.EFORM}, {"g|", "", api.EFORM}, {"1 |a|0||", "", api.EFORM}, {"1;x=y|a|0||", "", api.EFORM}, {"-1|", "", api.EFORM},
		{"", "", api.EORDER}, {"zz", "", api.EORDER}, {"1234567890", "", api.EORDER}, {"12345678901", "", api.EFORM}, {"zzzzzzzzz\r", "", api.EORDER}, {"3|ab", "", api.EORDER}, {"3|abc\r", "", api.EORDER},
		{"3|abcd", "", api.EORDER}, {"3|abcde", "", api.EFORM}, {"3|abc\n\n", "", api.EFORM}, {"3|abc|0|", "", api.EORDER}, {"3|abc|0|x", "", api.EORDER}, {"3|abc|0|xy", "", api.EFORM}, {"3|abc|0|a: b||", "", api.EFORM},
		{"4000|" + big + "|0||", big, api.OK}, {"4001|", "", api.ELIMIT}, {"ffffffff|", "", api.ELIMIT}, {"4000|" + big + "|1|", "", api.ELIMIT}, {"3fff|" + big[1:] + "|1|x|0||", big[1:] + "x", api.OK},
	} {
		r, n, e := ReadRequest(wire("P / HTTP/1.1|transfer-ENCODING: chuNKed||" + c.s))
		if e != c.want || string(r.Body) != c.body || (n > 0) != (e == api.OK) {
			t.Errorf("%.40q: %v %.40q", c.s, e, r.Body)
		}
	}
	for _, h := range []string{"Transfer-Encoding: chunked|transfer-encoding: chunked|", "Transfer-Encoding: gzip|", "Transfer-Encoding: |", "Transfer-Encoding: chunked|Content-Length: 3|", "Content-Length: 99999|Transfer-Encoding: chunked|", "Transfer-Encoding: chunked, chunked|"} {
		if _, _, e := ReadRequest(wire("P / HTTP/1.1|" + h + "|0||")); e != api.EFORM {
			t.Errorf("%q: %v", h, e)
		}
	}
}

func TestP17_2Refused(t *testing.T) {
	good := Request{"GET", "/", nil, nil}
	for i, r := range []Request{
		{"", "/", nil, nil}, {"get", "/", nil, nil}, {"ABCDEFGHI", "/", nil, nil}, {"GET", "", nil, nil}, {"GET", "a", nil, nil}, {"GET", "/ ", nil, nil}, {"GET", "/" + strings.Repeat("x", 201), nil, nil},
		{"GET", "/", []Header{{"", "x"}}, nil}, {"GET", "/", []Header{{"a b", "x"}}, nil}, {"GET", "/", []Header{{strings.Repeat("n", 41), "x"}}, nil}, {"GET", "/", []Header{{"a", " x"}}, nil}, {"GET", "/", []Header{{"a", "x\t"}}, nil},
		{"GET", "/", []Header{{"a", "\r\n"}}, nil}, {"GET", "/", []Header{{"a", "\x80"}}, nil}, {"GET", "/", []Header{{"content-LENGTH", "0"}}, nil}, {"GET", "/", []Header{{"transfer-encoding", "x"}}, nil},
		{"GET", "/", []Header{{"a", strings.Repeat("x", 3000)}, {"b c", ""}}, make([]byte, 99999)},
	} {
		for _, b := range [][]byte{first2(PrintRequest(r)), first2(Chunked(r, nil))} {
			if string(b) != "error 1" {
				t.Errorf("%d: %q", i, b)
			}
		}
	}
	for _, code := range []int{0, 99, 600, -200} {
		if b, e := PrintResponse(Response{Code: code}); b != nil || e != api.EARG {
			t.Errorf("code %d", code)
		}
	}
	for n, want := range map[int]api.Errno{31: api.OK, 32: api.ELIMIT} {
		r := good
		for range n {
			r.Headers = append(r.Headers, Header{"a", "b"})
		}
		_, e1 := PrintRequest(r)
		_, e2 := Chunked(r, nil)
		_, e3 := PrintResponse(Response{200, r.Headers, nil})
		if e1 != want || e2 != want || e3 != want {
			t.Errorf("%d headers: %v %v %v", n, e1, e2, e3)
		}
	}
	for n, want := range map[int]api.Errno{api.MaxBody: api.OK, api.MaxBody + 1: api.ELIMIT} {
		r := good
		r.Body = make([]byte, n)
		_, e1 := PrintRequest(r)
		_, e2 := Chunked(r, []int{n})
		if e1 != want || e2 != want {
			t.Errorf("a body of %d: %v %v", n, e1, e2)
		}
	}
	bare, _ := PrintRequest(Request{"GET", "/", []Header{{"a", ""}}, nil})
	for n, want := range map[int]api.Errno{api.MaxHead: api.OK, api.MaxHead + 1: api.ELIMIT} {
		b, e := PrintRequest(Request{"GET", "/", []Header{{"a", strings.Repeat("x", n-len(bare))}}, nil})
		if e != want || e == api.OK && len(b) != n {
			t.Errorf("a head of %d: %v", n, e)
		}
	}
}

func first2(b []byte, e api.Errno) []byte {
	if e != api.OK && b == nil {
		return []byte(e.Error())
	}
	return b
}

func TestP17_2Printed(t *testing.T) {
	for code, words := range map[int]string{200: "OK", 299: "OK", 199: "No", 300: "No", 599: "No", 100: "No"} {
		b, e := PrintResponse(Response{code, nil, []byte("hi")})
		if e != api.OK || string(b) != string(wire(fmt.Sprintf("HTTP/1.1 %d %s|Content-Length: 2||hi", code, words))) {
			t.Errorf("%q", b)
		}
	}
	r := Request{"PUT", "/x", []Header{{"A", ""}, {"a", "b c"}}, []byte("0123456789abcdefghij")}
	for _, c := range []struct {
		sizes []int
		want  string
	}{
		{nil, "14|0123456789abcdefghij|0||"}, {[]int{3, 0, -5, 1}, "3|012|1|3|10|456789abcdefghij|0||"}, {[]int{19, 99, 5}, "13|0123456789abcdefghi|1|j|0||"}, {[]int{20}, "14|0123456789abcdefghij|0||"},
	} {
		b, e := Chunked(r, c.sizes)
		if e != api.OK || string(b) != string(wire("PUT /x HTTP/1.1|A: |a: b c|Transfer-Encoding: chunked||"+c.want)) {
			t.Errorf("%q", b)
		}
	}
	if b, _ := Chunked(Request{"GET", "/", nil, nil}, []int{4}); !strings.HasSuffix(string(b), "chunked\r\n\r\n0\r\n\r\n") {
		t.Errorf("%q", b)
	}
}

func TestP17_3Get(t *testing.T) {
	h := []Header{{"Ab", "1"}, {"aB", "2"}, {"c", ""}}
	for _, get := range []func(string) (string, bool){Request{Headers: h}.Get, Response{Headers: h}.Get} {
		v, ok := get("AB")
		w, ok2 := get("C")
		x, ok3 := get("d")
		if v != "1" || !ok || w != "" || !ok2 || x != "" || ok3 {
			t.Error("Get")
		}
	}
}

func TestP17_4PrintedIsRead(t *testing.T) {
	x := rand.New(rand.NewSource(2))
	for range 200 {
		r := Request{"POST", "/" + strings.Repeat("p", x.Intn(10)), nil, make([]byte, x.Intn(60))}
		x.Read(r.Body)
		for range x.Intn(4) {
			r.Headers = append(r.Headers, Header{fmt.Sprint("h", x.Intn(3)), strings.Repeat("v", x.Intn(3))})
		}
		plain, _ := PrintRequest(r)
		chunks, _ := Chunked(r, []int{x.Intn(9), x.Intn(9), x.Intn(30)})
		response, _ := PrintResponse(Response{100 + x.Intn(500), r.Headers, r.Body})
		for i, b := range [][]byte{plain, chunks, response} {
			read := func(b []byte) ([]Header, []byte, int, api.Errno) {
				if i == 2 {
					r, n, e := ReadResponse(b)
					return r.Headers, r.Body, n, e
				}
				r, n, e := ReadRequest(b)
				return r.Headers, r.Body, n, e
			}
			h, body, n, e := read(append(b[:len(b):len(b)], "\r\n0"...))
			if e != api.OK || n != len(b) || string(body) != string(r.Body) || len(h) != len(r.Headers)+1 || len(r.Headers) > 0 && !reflect.DeepEqual(h[:len(r.Headers)], r.Headers) {
				t.Fatalf("%q: %v", b, e)
			}
			for k := range b {
				if _, _, _, e := read(b[:k]); e != api.EORDER {
					t.Fatalf("%q: %v", b[:k], e)
				}
			}
		}
	}
}
