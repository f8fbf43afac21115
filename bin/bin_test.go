package bin

import (
	"bytes"
	"math"
	"testing"

	"rolodex/api"
)

func numbers() []uint64 {
	l := []uint64{0, 1, 127, 128, 300, 16383, 16384, math.MaxUint64, math.MaxUint64 - 1}
	for i := range 64 {
		l = append(l, 1<<i, 1<<i-1)
	}
	return l
}

func TestP3_1Laid(t *testing.T) {
	if !bytes.Equal(Uint(nil, 300), []byte{172, 2}) || !bytes.Equal(Text(nil, "ab"), []byte{2, 97, 98}) {
		t.Error("the examples")
	}
	if !bytes.Equal(Uint(nil, 0), []byte{0}) || !bytes.Equal(Text(nil, ""), []byte{0}) {
		t.Error("nothing")
	}
	if got := Uint(nil, math.MaxUint64); len(got) != 10 || got[9] != 1 {
		t.Errorf("the greatest number: %v", got)
	}
	room := append(make([]byte, 0, 50), 9)
	got, more := Uint(room, 5), Text(room, "x")
	if !bytes.Equal(got, []byte{9, 5}) || !bytes.Equal(more, []byte{9, 1, 'x'}) {
		t.Errorf("behind other bytes: %v %v", got, more)
	}
	if room[:2][1] != 0 {
		t.Error("spare room was changed")
	}
	room[0] = 1
	if got[0] != 9 {
		t.Error("the answer shares the argument")
	}
}

func TestP3_2Reader(t *testing.T) {
	b := []byte{172, 2, 1, 120}
	r := Read(b)
	clear(b)
	if r.Left() != 4 || r.Uint() != 300 || r.Left() != 2 || r.End() != api.EFORM || r.Err() != api.OK {
		t.Error("the number")
	}
	if r.Text(5) != "x" || r.End() != api.OK || r.Left() != 0 || r.Err() != api.OK {
		t.Error("the text")
	}
	if r.Byte() != 0 || r.Err() != api.EFORM {
		t.Error("a byte behind the end")
	}
}

func TestP3_2WrongNumbers(t *testing.T) {
	for _, b := range [][]byte{
		nil, {128}, {128, 0}, {255, 128, 0}, {128, 128},
		{255, 255, 255, 255, 255, 255, 255, 255, 255, 2},
		{255, 255, 255, 255, 255, 255, 255, 255, 255, 129, 0},
		{128, 128, 128, 128, 128, 128, 128, 128, 128, 128, 1},
	} {
		r := Read(append(b, 7)[:len(b)])
		if r.Uint() != 0 || r.Err() != api.EFORM || r.End() != api.EFORM || r.Left() != 0 {
			t.Errorf("%v is read", b)
		}
		if r.Uint() != 0 || r.Int(9) != 0 || r.Text(9) != "" || r.Byte() != 0 {
			t.Errorf("%v: it goes on", b)
		}
	}
	r := Read([]byte{255, 255, 255, 255, 255, 255, 255, 255, 255, 1})
	if r.Uint() != math.MaxUint64 || r.End() != api.OK {
		t.Error("the greatest number")
	}
}

func TestP3_2Limits(t *testing.T) {
	if r := Read([]byte{5}); r.Int(5) != 5 || r.Err() != api.OK {
		t.Error("Int at its limit")
	}
	if r := Read([]byte{0, 0}); r.Int(0) != 0 || r.Text(0) != "" || r.End() != api.OK {
		t.Error("0 is at most 0")
	}
	for _, most := range []int{4, 0, -1, math.MinInt} {
		if r := Read([]byte{5}); r.Int(most) != 0 || r.Err() != api.EFORM {
			t.Errorf("Int(%d)", most)
		}
	}
	if r := Read(Uint(nil, math.MaxUint64)); r.Int(math.MaxInt) != 0 || r.Err() != api.EFORM {
		t.Error("Int of a number that is none")
	}
	if r := Read([]byte{2, 97, 98}); r.Text(2) != "ab" || r.End() != api.OK {
		t.Error("Text at its limit")
	}
	for _, most := range []int{1, -1} {
		if r := Read([]byte{2, 97, 98}); r.Text(most) != "" || r.Err() != api.EFORM {
			t.Errorf("Text(%d)", most)
		}
	}
	if r := Read([]byte{3, 97}); r.Text(9) != "" || r.Err() != api.EFORM || r.Left() != 0 {
		t.Error("a text that is cut")
	}
	if r := Read([]byte{0}); r.Text(-1) != "" || r.Err() != api.EFORM {
		t.Error("nothing is at most -1")
	}
}

func TestP3_3WhatIsLaidIsRead(t *testing.T) {
	for _, v := range numbers() {
		b := Text(Uint(Uint(nil, v), 1), "äb\x00")
		r := Read(b)
		if r.Uint() != v || r.Byte() != 1 || r.Text(100) != "äb\x00" || r.End() != api.OK {
			t.Errorf("%d", v)
		}
	}
	seen := map[string]uint64{}
	for _, v := range numbers() {
		b := string(Uint(nil, v))
		if w, ok := seen[b]; ok && w != v {
			t.Errorf("%d and %d have the same bytes", v, w)
		}
		seen[b] = v
	}
}
