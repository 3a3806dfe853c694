package octet_test

import (
	"encoding/binary"
	"math"
	"slices"
	"strings"
	"testing"

	"sealring/api"
	"sealring/octet"
)

const digits = "0123456789abcdef"

var texts = []string{"", "a", "\x00", "\xff", "\x01\xab", "abc", "\xc0\x80\x00\xff", "seven b", "eight by", "nine byte", strings.Repeat("\x00\x7f\x80\xff", 9)}

func allBytes() string {
	var b []byte
	for i := range 256 {
		b = append(b, byte(i))
	}
	return string(b)
}

func TestP1_1HexHasTwoDigitsOfEachByte(t *testing.T) {
	for i := range 256 {
		want := string([]byte{digits[i/16], digits[i%16]})
		if got := octet.Hex(string([]byte{byte(i)})); got != want {
			t.Errorf("Hex of byte %d: %q, not %q", i, got, want)
		}
	}
	for s, want := range map[string]string{"": "", "\x01\xab": "01ab", "\xab\x01": "ab01", "\x00\x00\x0f": "00000f"} {
		if got := octet.Hex(s); got != want {
			t.Errorf("Hex of %q: %q, not %q", s, got, want)
		}
	}
}

func TestP1_1UnhexReadsWhatHexWrites(t *testing.T) {
	for s, want := range map[string]string{"": "", "01ab": "\x01\xab", "00": "\x00", "ff": "\xff", "0f10": "\x0f\x10"} {
		if got, e := octet.Unhex(s); got != want || e != api.OK {
			t.Errorf("Unhex of %q: %q, %d", s, got, e)
		}
	}
}

func TestP1_1UnhexTakesJustTheDigits(t *testing.T) {
	for i := range 256 {
		c := string([]byte{byte(i)})
		want := api.ErrForm
		if strings.Contains(digits, c) {
			want = api.OK
		}
		for _, s := range []string{c + "0", "0" + c, "00" + c + "0", "0" + c + "00"} {
			got, e := octet.Unhex(s)
			if e != want || e != api.OK && got != "" || e == api.OK && octet.Hex(got) != s {
				t.Errorf("Unhex of %q: %q, %d", s, got, e)
			}
		}
	}
}

func TestP1_1UnhexRefusesOddLengths(t *testing.T) {
	for _, s := range []string{"0", "a", "01a", "abcde", "AB", "Ab", "0x", "g0", " 00", "00 ", "\xff"} {
		if got, e := octet.Unhex(s); got != "" || e != api.ErrForm {
			t.Errorf("Unhex of %q: %q, %d", s, got, e)
		}
	}
}

func TestP1_2PutWritesTheHighestByteFirst(t *testing.T) {
	same := func(name, got, want string) {
		if got != want {
			t.Errorf("%s: %q, not %q", name, got, want)
		}
	}
	same("Put32(258)", octet.Put32(258), "\x00\x00\x01\x02")
	same("Put32(0x01020304, 0xfffefdfc)", octet.Put32(0x01020304, 0xfffefdfc), "\x01\x02\x03\x04\xff\xfe\xfd\xfc")
	same("Put32()", octet.Put32(), "")
	same("Put64(258)", octet.Put64(258), "\x00\x00\x00\x00\x00\x00\x01\x02")
	same("Put64(two)", octet.Put64(0x0102030405060708, 1<<63), "\x01\x02\x03\x04\x05\x06\x07\x08\x80\x00\x00\x00\x00\x00\x00\x00")
	same("Put64()", octet.Put64(), "")
	same("Little(258)", octet.Little(258), "\x02\x01\x00\x00\x00\x00\x00\x00")
	same("Little(two)", octet.Little(0x0102030405060708, 1<<63), "\x08\x07\x06\x05\x04\x03\x02\x01\x00\x00\x00\x00\x00\x00\x00\x80")
	same("Little()", octet.Little(), "")
}

func TestP1_2GetReadsThem(t *testing.T) {
	b := []byte(allBytes())
	var want32 []uint32
	for i := 0; i < len(b); i += 4 {
		want32 = append(want32, binary.BigEndian.Uint32(b[i:]))
	}
	var want64, wantLow []uint64
	for i := 0; i < len(b); i += 8 {
		want64 = append(want64, binary.BigEndian.Uint64(b[i:]))
		wantLow = append(wantLow, binary.LittleEndian.Uint64(b[i:]))
	}
	for over := range 8 {
		rest := strings.Repeat("\xee", over)
		if got := octet.Get64(string(b) + rest); !slices.Equal(got, want64) {
			t.Errorf("Get64 with %d bytes over: %x", over, got)
		}
		if got := octet.Low(string(b) + rest); !slices.Equal(got, wantLow) {
			t.Errorf("Low with %d bytes over: %x", over, got)
		}
		if over < 4 {
			if got := octet.Get32(string(b) + rest); !slices.Equal(got, want32) {
				t.Errorf("Get32 with %d bytes over: %x", over, got)
			}
		}
	}
}

func TestP1_2LessThanAWordCountsForNothing(t *testing.T) {
	for n := range 8 {
		s := strings.Repeat("\xff", n)
		if n < 4 && len(octet.Get32(s)) != 0 || len(octet.Get64(s)) != 0 || len(octet.Low(s)) != 0 {
			t.Errorf("%d bytes came to a word", n)
		}
	}
	if got := octet.Get32("\x00\x00\x01\x02\x05"); !slices.Equal(got, []uint32{258}) {
		t.Error(got)
	}
}

func TestP1_3ThereAndBack(t *testing.T) {
	for _, s := range append(texts, allBytes()) {
		h := octet.Hex(s)
		if got, e := octet.Unhex(h); got != s || e != api.OK || len(h) != 2*len(s) {
			t.Errorf("%q: %q, %q, %d", s, h, got, e)
		}
		if got := octet.Put32(octet.Get32(s)...); got != s[:len(s)/4*4] {
			t.Errorf("32 of %q: %q", s, got)
		}
		if got := octet.Put64(octet.Get64(s)...); got != s[:len(s)/8*8] {
			t.Errorf("64 of %q: %q", s, got)
		}
		if got := octet.Little(octet.Low(s)...); got != s[:len(s)/8*8] {
			t.Errorf("low of %q: %q", s, got)
		}
	}
	l32 := []uint32{0, 1, 255, 256, 1 << 31, math.MaxUint32, 0x89abcdef}
	l64 := []uint64{0, 1, 255, 1 << 32, 1 << 63, math.MaxUint64, 0x0123456789abcdef}
	if !slices.Equal(octet.Get32(octet.Put32(l32...)), l32) || !slices.Equal(octet.Get64(octet.Put64(l64...)), l64) || !slices.Equal(octet.Low(octet.Little(l64...)), l64) {
		t.Error("words")
	}
}

func TestP1_2WhatIsHandedInIsNotChanged(t *testing.T) {
	l32, l64 := []uint32{1, 2, 3, 4}, []uint64{1, 2, 3, 4}
	octet.Put32(l32[:2]...)
	octet.Put64(l64[:2]...)
	octet.Little(l64[:2]...)
	if !slices.Equal(l32, []uint32{1, 2, 3, 4}) || !slices.Equal(l64, []uint64{1, 2, 3, 4}) {
		t.Error(l32, l64)
	}
}

func TestP7EveryCallEnds(t *testing.T) {
	for i := range 65536 {
		s := string([]byte{byte(i), byte(i >> 8)})
		for _, s := range []string{s, s + s, s[:1] + s + s + s + s} {
			octet.Hex(s)
			octet.Unhex(s)
			octet.Get32(s)
			octet.Get64(s)
			octet.Low(s)
		}
	}
	octet.Put32(nil...)
	octet.Put64(nil...)
	octet.Little(nil...)
}
