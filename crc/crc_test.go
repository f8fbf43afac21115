package crc

import "testing"

// slow reckons a sum bit by bit, as the chapter's words say.
func slow(b []byte) uint32 {
	c := uint32(4294967295)
	for _, x := range b {
		c ^= uint32(x)
		for range 8 {
			if c&1 == 1 {
				c = c>>1 ^ 0x82F63B78
			} else {
				c >>= 1
			}
		}
	}
	return c ^ 4294967295
}

func bytesOf(n int) []byte {
	b := make([]byte, n)
	x := uint32(7)
	for i := range b {
		x = x*1664525 + 1013904223
		b[i] = byte(x >> 24)
	}
	return b
}

func TestP1_1Sum(t *testing.T) {
	if Sum(nil) != 0 || Sum([]byte{}) != 0 {
		t.Error("the sum of nothing")
	}
	if s := Sum([]byte("123456789")); s != 3808858755 {
		t.Errorf("the check value: %d", s)
	}
	if s := More(Sum([]byte("1234")), []byte("56789")); s != 3808858755 {
		t.Errorf("in two parts: %d", s)
	}
	for n := range 300 {
		if b := bytesOf(n); Sum(b) != slow(b) {
			t.Fatalf("%d bytes: %x, want %x", n, Sum(b), slow(b))
		}
	}
	for x := range 256 {
		if b := []byte{byte(x)}; Sum(b) != slow(b) {
			t.Fatalf("byte %d", x)
		}
	}
}

func TestP1_2MoreAndChanges(t *testing.T) {
	b := bytesOf(60)
	want := Sum(b)
	for i := range len(b) + 1 {
		if More(Sum(b[:i]), b[i:]) != want {
			t.Errorf("cut at %d", i)
		}
	}
	for i := range 57 {
		for _, d := range [][4]byte{{1, 0, 0, 0}, {0x80, 0, 0, 1}, {0x78, 0x3B, 0xF6, 0x82}, {255, 255, 255, 255}} {
			c := append([]byte(nil), b...)
			for k := range 4 {
				c[i+k] ^= d[k]
			}
			if Sum(c) == want {
				t.Errorf("a change at %d is not told", i)
			}
		}
	}
}

func TestR4ArgumentStays(t *testing.T) {
	b := bytesOf(40)
	Sum(b[:20])
	More(5, b[:20])
	for i, x := range bytesOf(40) {
		if b[i] != x {
			t.Fatal("the argument was changed")
		}
	}
}
