package num_test

import (
	"math"
	"math/big"
	"regexp"
	"strings"
	"testing"

	"sealring/api"
	"sealring/num"
)

var numbers = []int64{0, 1, 2, 9, 10, 11, 99, 100, 101, 1000, 123456789, 1 << 31, 1 << 32, 9007199254740990, api.MaxInt, api.MaxInt + 1, api.MaxInt + 2, 1 << 62, math.MaxInt64 - 1, math.MaxInt64}

func TestP5_1Fits(t *testing.T) {
	for _, n := range numbers {
		if num.Fits(n) != (n <= 9007199254740991) || num.Fits(-n) != (n <= 9007199254740991) {
			t.Errorf("Fits(%d): %v, %v", n, num.Fits(n), num.Fits(-n))
		}
	}
	if num.Fits(math.MinInt64) {
		t.Error("the least one fits")
	}
}

func TestP5_1Show(t *testing.T) {
	for _, n := range append([]int64{math.MinInt64}, numbers...) {
		for _, m := range []int64{n, -n} {
			if got, want := num.Show(m), big.NewInt(m).String(); got != want {
				t.Errorf("Show(%d): %q", m, got)
			}
		}
	}
	if num.Show(0) != "0" || num.Show(-5) != "-5" || num.Show(math.MinInt64) != "-9223372036854775808" {
		t.Error(num.Show(0), num.Show(-5), num.Show(math.MinInt64))
	}
}

func scans(t *testing.T, s string, at int, n int64, next int, e api.Errno) {
	t.Helper()
	if gotN, gotNext, gotE := num.Scan(s, at); gotN != n || gotNext != next || gotE != e {
		t.Errorf("Scan(%q, %d): %d, %d, %d, not %d, %d, %d", s, at, gotN, gotNext, gotE, n, next, e)
	}
}

func TestP5_2ScanTellsTheNumberAndThePlaceBehind(t *testing.T) {
	scans(t, "a12,", 1, 12, 3, api.OK)
	scans(t, "a-12,", 1, -12, 4, api.OK)
	scans(t, "a-12,", 2, 12, 4, api.OK)
	scans(t, "0", 0, 0, 1, api.OK)
	scans(t, "0,", 0, 0, 1, api.OK)
	scans(t, "10", 1, 0, 2, api.OK)
	scans(t, "00", 1, 0, 2, api.OK)
	scans(t, "7-", 0, 7, 1, api.OK)
	scans(t, "7a5", 0, 7, 1, api.OK)
	scans(t, "7 .5", 0, 7, 1, api.OK)
	scans(t, "7\x00", 0, 7, 1, api.OK)
	scans(t, "7/:", 0, 7, 1, api.OK)
	scans(t, "0x1", 0, 0, 1, api.OK)
	scans(t, "1_0", 0, 1, 1, api.OK)
	scans(t, "9007199254740991", 0, api.MaxInt, 16, api.OK)
	scans(t, "-9007199254740991]", 0, -api.MaxInt, 17, api.OK)
}

func TestP5_2ScanTellsWhatIsWrong(t *testing.T) {
	for s, e := range map[string]api.Errno{
		"": api.ErrShort, "-": api.ErrShort,
		"a": api.ErrForm, "-a": api.ErrForm, "--1": api.ErrForm, "+1": api.ErrForm, " 1": api.ErrForm, ".5": api.ErrForm, "-.5": api.ErrForm, "e1": api.ErrForm, "\xff": api.ErrForm, "-\xff": api.ErrForm, "/": api.ErrForm, ":": api.ErrForm, "\u0663": api.ErrForm,
		"007": api.ErrNumber, "00": api.ErrNumber, "01": api.ErrNumber, "-01": api.ErrNumber, "-00": api.ErrNumber, "-0": api.ErrNumber, "-0,": api.ErrNumber, "-0a": api.ErrNumber, "-0-": api.ErrNumber,
		"1.5": api.ErrNumber, "1.": api.ErrNumber, "1.0": api.ErrNumber, "0.": api.ErrNumber, "-0.0": api.ErrNumber, "1e5": api.ErrNumber, "1E5": api.ErrNumber, "1e": api.ErrNumber, "12E": api.ErrNumber, "0e1": api.ErrNumber,
		"9007199254740992": api.ErrRange, "-9007199254740992": api.ErrRange, "9007199254740993": api.ErrRange, "90071992547409910": api.ErrRange, "-90071992547409915": api.ErrRange, "90071992547409910000": api.ErrRange, "10000000000000000": api.ErrRange, "18446744073709551616": api.ErrRange, "18446744073709551617,": api.ErrRange, "-18446744073709551617": api.ErrRange,
		"9007199254740992.5": api.ErrNumber, "9007199254740992e1": api.ErrNumber, "09007199254740992": api.ErrNumber, "99999999999999999999E": api.ErrNumber,
	} {
		scans(t, s, 0, 0, 0, e)
	}
	for _, digit := range []string{"1", "3", "9"} {
		for _, many := range []int{17, 19, 20, 40, 100, 1000} {
			long := strings.Repeat(digit, many)
			scans(t, long, 0, 0, 0, api.ErrRange)
			scans(t, "-"+long, 0, 0, 0, api.ErrRange)
			scans(t, long+".", 0, 0, 0, api.ErrNumber)
			scans(t, "0"+long, 0, 0, 0, api.ErrNumber)
		}
	}
	// 2^64 more than a number that fits: it would fit if it went round
	wrapped := new(big.Int).Lsh(big.NewInt(1), 64)
	scans(t, wrapped.Add(wrapped, big.NewInt(5)).String(), 0, 0, 0, api.ErrRange)
}

func TestP5_2ScanOfPlaces(t *testing.T) {
	for _, at := range []int{-1, 3, 4, math.MinInt, math.MaxInt} {
		scans(t, "12", at, 0, 0, api.ErrArg)
	}
	scans(t, "", 1, 0, 0, api.ErrArg)
	scans(t, "", -1, 0, 0, api.ErrArg)
	scans(t, "12", 2, 0, 0, api.ErrShort)
	scans(t, "12-", 2, 0, 0, api.ErrShort)
	scans(t, "12-", 3, 0, 0, api.ErrShort)
}

var whole = regexp.MustCompile(`^-?[0-9]+`)

// scan is what the document's words have of a text that is short.
func scan(s string) (int64, int, api.Errno) {
	digits := strings.TrimPrefix(s, "-")
	found := whole.FindString(s)
	behind := s[len(found):]
	switch {
	case digits == "":
		return 0, 0, api.ErrShort
	case found == "":
		return 0, 0, api.ErrForm
	case regexp.MustCompile(`^-?0[0-9]`).MatchString(s), found == "-0", behind != "" && strings.Contains(".eE", behind[:1]):
		return 0, 0, api.ErrNumber
	}
	n, _ := new(big.Int).SetString(found, 10)
	return n.Int64(), len(found), api.OK
}

func TestP5_2AllShortTexts(t *testing.T) {
	var look func(s string)
	look = func(s string) {
		n, next, e := scan(s)
		scans(t, s, 0, n, next, e)
		if len(s) < 5 {
			for _, c := range []string{"-", "0", "1", "9", ".", "e", "E", ",", " "} {
				look(s + c)
			}
		}
	}
	look("")
}

func TestP5_3ThereAndBack(t *testing.T) {
	for _, n := range numbers {
		for _, m := range []int64{n, -n} {
			s := num.Show(m)
			if num.Fits(m) {
				scans(t, s, 0, m, len(s), api.OK)
				scans(t, "["+s+"]", 1, m, 1+len(s), api.OK)
			} else {
				scans(t, s, 0, 0, 0, api.ErrRange)
			}
		}
	}
	for i := range 3000 {
		s := num.Show(int64(i - 1500))
		if n, next, e := num.Scan(s, 0); e != api.OK || num.Show(n) != s[:next] || next != len(s) {
			t.Errorf("%q: %d, %d, %d", s, n, next, e)
		}
	}
}

func TestP7EveryCallEnds(t *testing.T) {
	for i := range 65536 {
		s := string([]byte{byte(i), byte(i >> 8)})
		for _, s := range []string{s, s[:1], "-" + s, "0" + s, "1" + s} {
			for _, at := range []int{-1, 0, 1, len(s) - 1, len(s), len(s) + 1, math.MinInt, math.MaxInt} {
				num.Scan(s, at)
			}
		}
	}
}
