package auth

import (
	"math"
	"strings"
	"testing"

	"rolodex/api"
	"rolodex/bin"
	"rolodex/sha"
)

func issue(t *testing.T, k *Keeper, dev int, epoch uint64, now, lasts int64) string {
	t.Helper()
	s, e := k.Issue(dev, epoch, now, lasts)
	if e != api.OK {
		t.Fatal(e)
	}
	return s
}

func TestExample(t *testing.T) {
	k := New([]byte("k"))
	s := issue(t, k, 1, 0, 10, 5)
	b := []byte{1, 0, 1, 15}
	if want := "v1.0100010f." + sha.Hex(sha.Mac([]byte("k"), b)); s != want {
		t.Errorf("%s, want %s", s, want)
	}
	if c, e := k.Verify(s, 14); e != api.OK || c != (Claim{1, 0, 1, 15}) {
		t.Errorf("%v %v", c, e)
	}
	if c, e := k.Verify(s, 15); e != api.EEXPIRED || c != (Claim{}) {
		t.Error("over")
	}
	if k.Revoke(1) != api.OK {
		t.Error("Revoke")
	}
	if c, e := k.Verify(s, 14); e != api.EREVOKED || c != (Claim{}) {
		t.Error("revoked")
	}
	if _, e := k.Verify("v1..", 0); e != api.ETOKEN {
		t.Error("no token")
	}
}

func TestP18_1Issue(t *testing.T) {
	k := New(nil)
	for _, c := range []struct {
		dev        int
		epoch      uint64
		now, lasts int64
	}{
		{-1, 0, 0, 1}, {16, 0, 0, 1}, {0, 1<<40 + 1, 0, 1}, {0, math.MaxUint64, 0, 1}, {0, 0, -1, 1}, {0, 0, 1<<60 + 1, 1}, {0, 0, 0, 0}, {0, 0, 0, -1}, {0, 0, 0, 1<<60 + 1}, {0, 0, math.MaxInt64, math.MaxInt64},
	} {
		if s, e := k.Issue(c.dev, c.epoch, c.now, c.lasts); s != "" || e != api.EARG || k.Issued() != 0 {
			t.Errorf("%v: %v", c, e)
		}
	}
	s := issue(t, k, 15, 1<<40, 1<<60, 1<<60)
	if c, e := Read(s); e != api.OK || c != (Claim{15, 1 << 40, 1, 1 << 61}) {
		t.Errorf("%v %v", c, e)
	}
	if c, e := k.Verify(s, math.MinInt64); e != api.OK || c.Num != 1 {
		t.Error("Verify at the limits")
	}
	if c, _ := Read(issue(t, k, 0, 0, 0, 1)); c.Num != 2 || k.Issued() != 2 {
		t.Error("the next number")
	}
}

// forged is a token of a body under a key.
func forged(key string, b []byte) string {
	return "v1." + hex(b) + "." + sha.Hex(sha.Mac([]byte(key), b))
}

func laid(l ...uint64) []byte {
	var b []byte
	for _, v := range l {
		b = bin.Uint(b, v)
	}
	return b
}

func TestP18_1Read(t *testing.T) {
	d := "." + sha.Hex([32]byte{})
	for s, want := range map[string]Claim{
		"v1.00000101" + d: {0, 0, 1, 1}, "v1.0fac02ff7f05" + d: {15, 300, 16383, 5},
		"v2.00000101" + d: {}, "00000101" + d: {}, "v1.0000010" + d: {}, "v1.0000010100" + d: {}, "v1.000001" + d: {}, "v1.00000001" + d: {}, "v1.00000100" + d: {}, "v1.10000101" + d: {},
		"v1.0000010G" + d: {}, "v1.0000010A" + d: {}, "v1.00000101" + d[:64]: {}, "v1.00000101" + d + "0": {}, "v1.00000101" + d + ".": {}, "v1.00000101.": {}, "v1.00000101": {}, "": {}, "v1.": {}, "v1..": {}, "v1" + d: {}, " v1.00000101" + d: {}, "V1.00000101" + d: {}, "v1.80000000101" + d: {},
	} {
		c, e := Read(s)
		if c != want || (e == api.OK) != (want != Claim{}) || e != api.OK && e != api.ETOKEN {
			t.Errorf("%q: %v %v", s, c, e)
		}
	}
	for i, b := range [][]byte{laid(0, 1<<40+1, 1, 1), laid(0, 0, 1, 1<<61+1), laid(0, 0, 1, math.MaxUint64), laid(16, 0, 1, 1)} {
		if _, e := Read(forged("k", b)); e != api.ETOKEN {
			t.Errorf("%d is read", i)
		}
	}
	if c, e := Read(forged("k", laid(0, 1<<40, math.MaxUint64, 1<<61))); e != api.OK || c.Num != math.MaxUint64 {
		t.Error("at the limits")
	}
}

func TestP18_2Verify(t *testing.T) {
	k := New([]byte("key"))
	issue(t, k, 0, 0, 0, 10)
	if _, e := k.Verify(forged("key", laid(0, 0, 2, 10)), 0); e != api.ETOKEN {
		t.Error("a number above Issued")
	}
	if c, e := k.Verify(forged("key", laid(3, 0, 1, 10)), 9); e != api.OK || c.Dev != 3 {
		t.Error("whoever lays it, it is one under the key")
	}
	if _, e := k.Verify(forged("Key", laid(0, 0, 1, 10)), 0); e != api.ETOKEN {
		t.Error("another key's")
	}
	if k.Asked() != 3 || k.Issued() != 1 {
		t.Error("Asked, Issued")
	}
	for _, n := range []uint64{0, 2, math.MaxUint64} {
		if k.Revoke(n) != api.EARG {
			t.Errorf("Revoke(%d)", n)
		}
	}
	if k.Revoke(1) != api.OK || k.Revoke(1) != api.OK {
		t.Error("Revoke twice")
	}
	if _, e := k.Verify(forged("key", laid(0, 0, 1, 10)), 99); e != api.EREVOKED {
		t.Error("EREVOKED is named ahead of EEXPIRED")
	}
	key := []byte("abc")
	k = New(key)
	s := issue(t, k, 0, 0, 0, 10)
	clear(key)
	if _, e := k.Verify(s, 0); e != api.OK {
		t.Error("the keeper shares its key")
	}
}

func TestP18_3Changes(t *testing.T) {
	k := New([]byte("key"))
	for range 300 {
		issue(t, k, 0, 0, 0, 10)
	}
	s := issue(t, k, 2, 70000, 5, 100)
	for i := range len(s) {
		for _, c := range []byte("0123456789abcdefABv. \x00\xff") {
			b := []byte(s)
			if b[i] == c {
				continue
			}
			b[i] = c
			if _, e := k.Verify(string(b), 6); e != api.ETOKEN {
				t.Fatalf("%q: %v", b, e)
			}
		}
		if _, e := k.Verify(s[:i], 6); e != api.ETOKEN {
			t.Fatalf("cut to %d", i)
		}
	}
	if _, e := k.Verify(strings.ToUpper(s), 6); e != api.ETOKEN {
		t.Error("in great letters")
	}
	if _, e := New([]byte("kez")).Verify(s, 6); e != api.ETOKEN {
		t.Error("another keeper")
	}
}
