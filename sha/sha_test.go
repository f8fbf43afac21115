package sha

import (
	"bytes"
	"crypto/hmac"
	"crypto/sha256"
	"strings"
	"sync"
	"testing"

	"rolodex/api"
)

func bytesOf(n int) []byte {
	b := make([]byte, n)
	x := uint32(n) + 7
	for i := range b {
		x = x*1664525 + 1013904223
		b[i] = byte(x >> 24)
	}
	return b
}

func TestP2_1Sum(t *testing.T) {
	if Hex(Sum(nil)) != "e3b0c44298fc1c149afbf4c8996fb92427ae41e4649b934ca495991b7852b855" {
		t.Error("the digest of nothing")
	}
	if !strings.HasPrefix(Hex(Sum([]byte("abc"))), "ba7816bf") {
		t.Error("the digest of abc")
	}
	for n := range 300 {
		if b := bytesOf(n); Sum(b) != sha256.Sum256(b) {
			t.Fatalf("%d bytes", n)
		}
	}
}

func TestP2_1Mac(t *testing.T) {
	m := Mac([]byte("key"), []byte("The quick brown fox jumps over the lazy dog"))
	if !strings.HasPrefix(Hex(m), "f7bc83f4") {
		t.Error("the example")
	}
	for _, n := range []int{0, 1, 63, 64, 65, 200} {
		for _, k := range []int{0, 1, 63, 64, 65, 200} {
			w := hmac.New(sha256.New, bytesOf(k))
			w.Write(bytesOf(n))
			if m := Mac(bytesOf(k), bytesOf(n)); !bytes.Equal(m[:], w.Sum(nil)) {
				t.Errorf("key %d, bytes %d", k, n)
			}
		}
	}
}

func TestP2_1HexAndRead(t *testing.T) {
	d := Sum([]byte("x"))
	if got, e := Read(Hex(d)); got != d || e != api.OK {
		t.Error("Read of Hex")
	}
	good := Hex(d)
	for _, s := range []string{"", good[:63], good + "0", strings.ToUpper(good), "g" + good[1:], good[:63] + "/", good[:63] + ":", good[:63] + "`", " " + good[1:]} {
		if got, e := Read(s); e != api.EFORM || got != [32]byte{} {
			t.Errorf("Read(%q): %v", s, e)
		}
	}
}

func TestP2_1Equal(t *testing.T) {
	if !Equal(nil, []byte{}) || !Equal([]byte("ab"), []byte("ab")) {
		t.Error("the same bytes")
	}
	for _, s := range []string{"", "a", "abc", "bb", "aa", "Ab"} {
		if Equal([]byte("ab"), []byte(s)) {
			t.Errorf("ab and %q", s)
		}
	}
}

func TestP2_2Hash(t *testing.T) {
	h := New()
	if h.Write([]byte("ab")) != 2 || h.Write(nil) != 0 || h.Write([]byte("c")) != 1 || h.Len() != 3 {
		t.Error("what Write takes")
	}
	d := h.Sum()
	if d != Sum([]byte("abc")) {
		t.Error("the digest")
	}
	if h.Write([]byte("d")) != 0 || h.Len() != 3 || h.Sum() != d {
		t.Error("behind Sum")
	}
	if New().Sum() != Sum(nil) {
		t.Error("a hash of nothing")
	}
}

func TestP2_2SumByMany(t *testing.T) {
	h := New()
	h.Write(bytesOf(1000))
	var g sync.WaitGroup
	var got [8][32]byte
	for i := range got {
		g.Add(1)
		go func() {
			defer g.Done()
			got[i] = h.Sum()
		}()
	}
	g.Wait()
	for _, d := range got {
		if d != Sum(bytesOf(1000)) {
			t.Error("a digest told to one of many")
		}
	}
}

func TestP2_3Parts(t *testing.T) {
	b := bytesOf(200)
	for _, step := range []int{1, 3, 63, 64, 65, 130} {
		h := New()
		for i := 0; i < len(b); i += step {
			part := append([]byte(nil), b[i:min(i+step, len(b))]...)
			h.Write(part)
			clear(part)
		}
		if h.Sum() != Sum(b) {
			t.Errorf("parts of %d", step)
		}
	}
}
