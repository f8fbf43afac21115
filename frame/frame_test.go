package frame

import (
	"bytes"
	"testing"

	"rolodex/api"
	"rolodex/crc"
)

func framed(t *testing.T, payloads ...string) []byte {
	t.Helper()
	var b []byte
	for _, p := range payloads {
		var e api.Errno
		if b, e = Append(b, []byte(p)); e != api.OK {
			t.Fatal(e)
		}
	}
	return b
}

func same(got [][]byte, want ...string) bool {
	if len(got) != len(want) {
		return false
	}
	for i, p := range got {
		if string(p) != want[i] {
			return false
		}
	}
	return true
}

func TestP4_1Append(t *testing.T) {
	s := crc.Sum([]byte{1, 0, 0, 0, 97})
	want := []byte{1, 0, 0, 0, byte(s), byte(s >> 8), byte(s >> 16), byte(s >> 24), 97}
	if got := framed(t, "a"); !bytes.Equal(got, want) {
		t.Errorf("%v, want %v", got, want)
	}
	big := make([]byte, api.MaxFrame+1)
	if b, e := Append([]byte{1}, big); e != api.ELIMIT || len(b) != 0 {
		t.Error("one byte too many")
	}
	b, e := Append(nil, big[1:])
	if p, used, state := Scan(b); e != api.OK || len(p) != 1 || len(p[0]) != api.MaxFrame || used != len(b) || state != Clean {
		t.Error("a payload at the limit")
	}
	room := append(make([]byte, 0, 100), 5)
	got, _ := Append(room, []byte("a"))
	if got[0] != 5 || room[:2][1] != 0 {
		t.Error("behind other bytes")
	}
}

func TestP4_2Scan(t *testing.T) {
	if p, used, state := Scan(nil); len(p) != 0 || used != 0 || state != Clean {
		t.Error("nothing")
	}
	if p, used, state := Scan([]byte{1, 0, 0}); len(p) != 0 || used != 0 || state != Torn {
		t.Error("three bytes")
	}
	two := framed(t, "ab", "")
	for _, c := range []struct {
		behind []byte
		state  int
	}{
		{nil, Clean},
		{[]byte{255, 255, 255, 255, 0, 0, 0}, Torn},
		{[]byte{0, 0, 1, 0, 0, 0, 0, 0}, Torn},
		{[]byte{1, 0, 1, 0, 0, 0, 0, 0}, Corrupt},
		{[]byte{255, 255, 255, 255, 0, 0, 0, 0}, Corrupt},
		{[]byte{0, 0, 0, 0, 0, 0, 0, 0}, Corrupt},
		{[]byte{2, 0, 0, 0, 0, 0, 0, 0, 9}, Torn},
		{[]byte{1, 0, 0, 0, 0, 0, 0, 0, 9}, Corrupt},
	} {
		p, used, state := Scan(append(append([]byte(nil), two...), c.behind...))
		if !same(p, "ab", "") || used != len(two) || state != c.state {
			t.Errorf("%v behind: %q %d %d", c.behind, p, used, state)
		}
	}
}

func TestP4_2AnswerIsNew(t *testing.T) {
	b := framed(t, "ab", "cd")
	p, _, _ := Scan(b)
	clear(b)
	_ = append(p[0], 'x')
	if !same(p, "ab", "cd") {
		t.Error("payloads share memory")
	}
}

func TestP4_3CutAndChanged(t *testing.T) {
	l := []string{"first", "", "second one"}
	b := framed(t, l...)
	ends := []int{len(framed(t, l[:1]...)), len(framed(t, l[:2]...)), len(b)}
	for n := range len(b) {
		whole := 0
		for whole < 3 && ends[whole] <= n {
			whole++
		}
		p, used, state := Scan(b[:n])
		clean := n == 0 || whole > 0 && ends[whole-1] == n
		if !same(p, l[:whole]...) || clean != (state == Clean) || !clean && state != Torn {
			t.Errorf("cut to %d: %q %d %d", n, p, used, state)
		}
	}
	for i := ends[1] + 8; i+4 <= len(b); i++ {
		c := append([]byte(nil), b...)
		c[i] ^= 1
		c[i+3] ^= 128
		if p, used, state := Scan(c); !same(p, l[:2]...) || used != ends[1] || state != Corrupt {
			t.Errorf("changed at %d", i)
		}
	}
	c := append([]byte(nil), b...)
	c[8] ^= 4
	if p, used, state := Scan(c); len(p) != 0 || used != 0 || state != Corrupt {
		t.Error("the first payload changed")
	}
}
