package host_test

import (
	"math"
	"regexp"
	"strconv"
	"strings"
	"testing"

	"sealring/api"
	"sealring/host"
)

func kinds(t *testing.T, s string, want int) {
	t.Helper()
	if got := host.Kind(s); got != want {
		t.Errorf("Kind(%q): %d, not %d", s, got, want)
	}
}

func parts(t *testing.T, s, name string, port int, e api.Errno) {
	t.Helper()
	if gotName, gotPort, gotE := host.Parts(s); gotName != name || gotPort != port || gotE != e {
		t.Errorf("Parts(%q): %q, %d, %d; not %q, %d, %d", s, gotName, gotPort, gotE, name, port, e)
	}
}

// named are names and such as are none, with their kinds.
var named = map[string]int{
	"a": 1, "A": 1, "Z9": 1, "a.b": 1, "example.org": 1, "EXAMPLE.Org": 1, "a-b": 1, "a--b": 1, "xn--abc.de": 1, "1a": 1, "a1": 1, "1-2": 1, "1-2.3": 1, "1.2.3.a": 1, "a.1.2.3": 1, "1.2.3.4.a": 1, "256.1.1.x": 1, "0x1.2": 1, "1.a.2": 1, "z": 1, "0-9": 1,
	"": 0, ".": 0, "a.": 0, ".a": 0, "a..b": 0, "-": 0, "-a": 0, "a-": 0, "a-.b": 0, "a.-b": 0, "a.b-": 0, "a_b": 0, "a b": 0, " a": 0, "a ": 0, "a/b": 0, "a:b": 0, "a:": 0, ":": 0, ":80": 0, "a@b": 0, "a`b": 0, "a[b": 0, "a{b": 0, "\u00e9": 0, "a\x00": 0, "\xff": 0, "a\n": 0, "*.a": 0, "\u212a": 0, "a\u0660": 0,
	"1": 0, "12": 0, "1.2": 0, "1.2.3": 0, "1.2.3.4.5": 0, "256.1.1.1": 0, "1.1.1.256": 0, "01.2.3.4": 0, "1.2.3.04": 0, "1.2.3.00": 0, "1.2.3.": 0, ".1.2.3": 0, "1..2.3": 0, "1.2.3.4.": 0, "999.999.999.999": 0, "1.2.3.-4": 0, "1.2.3.+4": 0, "1.2.3. 4": 0, "-1.2.3.4": 0, "1.2.3.-0": 0, "1.2.3.9007199254740992": 0, "1.2.3.18446744073709551617": 0, "1.2.3.4294967297": 0, "1e1.2.3": 1, "1.2.3.1e1": 1,
	"1.2.3.4": 2, "0.0.0.0": 2, "255.255.255.255": 2, "127.0.0.1": 2, "10.20.30.40": 2, "249.250.199.200": 2,
	"[::]": 3, "[::1]": 3, "[1::]": 3, "[1::2]": 3, "[1:2:3:4:5:6:7:8]": 3, "[a:B:c:D:e:F:0:9]": 3, "[1234:abcd:EF01:2345:6789:0000:ffff:FFFF]": 3, "[1:2:3:4:5:6:7::]": 3, "[::2:3:4:5:6:7:8]": 3, "[1:2:3::5:6:7:8]": 3, "[fe80::1]": 3, "[1:2::7:8]": 3, "[00::0000]": 3, "[2001:db8::ff00:42:8329]": 3,
	"[]": 0, "[": 0, "]": 0, "[:]": 0, "[:::]": 0, "[::::]": 0, "[1]": 0, "[1:2]": 0, "[1:2:3:4:5:6:7]": 0, "[1:2:3:4:5:6:7:8:9]": 0, "[1:2:3:4::5:6:7:8]": 0, "[1:2:3:4:5:6:7:8::]": 0, "[::1:2:3:4:5:6:7:8]": 0, "[1::2::3]": 0, "[::1::]": 0, "[1:::2]": 0, "[:1::2]": 0, "[1::2:]": 0, "[:1:2:3:4:5:6:7:8]": 0, "[1:2:3:4:5:6:7:8:]": 0, "[:1:2:3:4:5:6:7]": 0, "[1:2:3:4:5:6:7:]": 0, "[:1]": 0, "[1:]": 0, "[12345::]": 0, "[::12345]": 0, "[g::]": 0, "[::G]": 0, "[::/]": 0, "[::@]": 0, "[::`]": 0, "[::1.2.3.4]": 0, "[::ffff:1.2.3.4]": 0, "[fe80::1%eth0]": 0, "[ ::1]": 0, "[::1 ]": 0, "[::-1]": 0, "::1": 0, "::": 0, "[::1": 0, "::1]": 0, "[[::1]]": 0, "[::1]]": 0, "[[::1]": 0, "[a]": 0, "[a.b]": 0, "[1.2.3.4]": 0, "[\xff::]": 0, "[1:2:3:4:5:6:7:88888]": 0, "[1:2:3:4:5:6:7:x]": 0, "a[::1]": 0, "[::1]a": 0, "(::1)": 0, "[::1)": 0, "(::1]": 0,
}

func TestP27_1Kind(t *testing.T) {
	for s, want := range named {
		kinds(t, s, want)
	}
}

func TestP27_1KindOfEachByte(t *testing.T) {
	for i := range 256 {
		c := string([]byte{byte(i)})
		letter := regexp.MustCompile(`^[A-Za-z]$`).MatchString(c)
		digit := regexp.MustCompile(`^[0-9]$`).MatchString(c)
		hex := regexp.MustCompile(`^[0-9A-Fa-f]$`).MatchString(c)
		one := map[bool]int{true: 1}
		kinds(t, c, one[letter])
		kinds(t, "a"+c, one[letter || digit])
		kinds(t, c+"a", one[letter || digit])
		kinds(t, "x.0"+c+"0", one[letter || digit || c == "-" || c == "."])
		kinds(t, "1.2.3."+c, map[bool]int{true: 2}[digit]+one[letter])
		kinds(t, "[::"+c+"]", map[bool]int{true: 3}[hex])
		kinds(t, "[1"+c+"::"+c+"0]", map[bool]int{true: 3}[hex])
	}
}

func TestP27_1LabelsAreOf63AtMost(t *testing.T) {
	for _, size := range []int{1, 62, 63, 64, 65, 300} {
		label := strings.Repeat("a", size)
		want := 1
		if size > 63 {
			want = 0
		}
		kinds(t, label, want)
		kinds(t, "b."+label, want)
		kinds(t, label+".b", want)
		kinds(t, strings.Repeat("1", size)+".b", want)
	}
	kinds(t, strings.Repeat("a.", 500)+"b", 1) // a name may be long: just Parts tells
	kinds(t, strings.Repeat("1.", 500)+"1", 0)
}

func TestP27_1EachNumber(t *testing.T) {
	for n := range 1200 {
		want := 2
		if n > 255 {
			want = 0
		}
		s := strconv.Itoa(n)
		for _, name := range []string{s + ".2.3.4", "1." + s + ".3.4", "1.2." + s + ".4", "1.2.3." + s} {
			kinds(t, name, want)
		}
		kinds(t, "1.2.3.0"+s, 0)
	}
}

func TestP27_1EachCountOfGroups(t *testing.T) {
	for many := range 12 {
		groups := strings.TrimSuffix(strings.Repeat("1:", many), ":")
		kinds(t, "["+groups+"]", map[int]int{8: 3}[many])
		for ahead := range many + 1 {
			left, right := strings.TrimSuffix(strings.Repeat("a:", ahead), ":"), strings.TrimSuffix(strings.Repeat("B:", many-ahead), ":")
			want := 3
			if many > 7 {
				want = 0
			}
			kinds(t, "["+left+"::"+right+"]", want)
			kinds(t, "["+left+":::"+right+"]", 0)
			kinds(t, "["+left+"::"+right+"::]", 0)
			kinds(t, "["+left+"::"+right+":]", 0)
			kinds(t, "[:"+left+"::"+right+"]", 0)
		}
	}
	for size := 1; size < 9; size++ {
		want := 3
		if size > 4 {
			want = 0
		}
		group := strings.Repeat("f", size)
		kinds(t, "["+group+"::]", want)
		kinds(t, "[::"+group+"]", want)
		kinds(t, "[1:2:3:"+group+":5:6:7:8]", want)
	}
}

var (
	label    = `[A-Za-z0-9]([A-Za-z0-9-]{0,61}[A-Za-z0-9])?`
	words    = regexp.MustCompile(`^` + label + `(\.` + label + `)*$`)
	byDigits = regexp.MustCompile(`^[0-9.]*$`)
	byte255  = `(0|[1-9][0-9]?|1[0-9][0-9]|2[0-4][0-9]|25[0-5])`
	numbers  = regexp.MustCompile(`^` + byte255 + `(\.` + byte255 + `){3}$`)
	eight    = regexp.MustCompile(`^\[([0-9a-fA-F]{1,4}:){7}[0-9a-fA-F]{1,4}\]$`)
	side     = `([0-9a-fA-F]{1,4}(:[0-9a-fA-F]{1,4})*)?`
	fewer    = regexp.MustCompile(`^\[` + side + `::` + side + `\]$`)
	group    = regexp.MustCompile(`[0-9a-fA-F]+`)
)

// kind is what the document's words have of a text.
func kind(s string) int {
	switch {
	case words.MatchString(s) && !byDigits.MatchString(s):
		return 1
	case numbers.MatchString(s):
		return 2
	case eight.MatchString(s), fewer.MatchString(s) && len(group.FindAllString(s, -1)) <= 7:
		return 3
	}
	return 0
}

// each hands on all texts of at most so many of these pieces, between a beginning and an end.
func each(begin, end string, many int, pieces []string, look func(s string)) {
	look(begin + end)
	if many > 0 {
		for _, p := range pieces {
			each(begin+p, end, many-1, pieces, look)
		}
	}
}

func TestP27_1AllShortTexts(t *testing.T) {
	look := func(s string) {
		want := kind(s)
		kinds(t, s, want)
		if want != 0 {
			parts(t, s, s, 0, api.OK)
			parts(t, s+":8448", s, 8448, api.OK)
		}
	}
	each("", "", 5, []string{"a", "Z", "0", "1", "-", ".", ":", "[", "]"}, look)
	each("", "", 8, []string{"0", "25", ".", "7"}, look)
	each("[", "]", 6, []string{"1", "ab", ":", "::", "g"}, look)
	each("[1:2:3", ":8]", 6, []string{":", ":4", "F", "::"}, look)
}

func TestP27_1Parts(t *testing.T) {
	parts(t, "a.b:80", "a.b", 80, api.OK)
	parts(t, "a.b", "a.b", 0, api.OK)
	parts(t, "1.2.3.4", "1.2.3.4", 0, api.OK)
	parts(t, "1.2.3.4:1", "1.2.3.4", 1, api.OK)
	parts(t, "[::1]", "[::1]", 0, api.OK)
	parts(t, "[::1]:65535", "[::1]", 65535, api.OK)
	parts(t, "[1:2:3:4:5:6:7:8]:8448", "[1:2:3:4:5:6:7:8]", 8448, api.OK)
	for s, want := range named {
		if want == 0 {
			if s != ":80" && s != "a:" {
				parts(t, s+":80", "", 0, api.ErrName)
			}
			parts(t, s, "", 0, api.ErrName)
			continue
		}
		parts(t, s, s, 0, api.OK)
		parts(t, s+":8448", s, 8448, api.OK)
	}
	for _, s := range []string{"1.2.3:80", "a:b", "a:", ":80", ":", "::", "a:80:80", "a:80:", "a::80", "[::1]80", "[::1]:", "[::1]8:0", "::1:80", "[::1:80]:", "[::1:80", " a:80", "a :80", "a:80 ", "a: 80", "a:80\n", "a:8a", "a:a8", "a:+80", "a:-80", "a:-0", "a:0", "a:00", "a:080", "a:01", "a:65536", "a:65537", "a:99999", "a:4295032832", "a:9007199254740992", "a:18446744073709551696", "a:80.", "a:8e1", "a:8.0", "a:0x50", "a:\xd9\xa8"} {
		parts(t, s, "", 0, api.ErrName)
	}
}

func TestP27_1EachPort(t *testing.T) {
	for port := range 66000 {
		s := strconv.Itoa(port)
		if port < 1 || port > 65535 {
			parts(t, "a:"+s, "", 0, api.ErrName)
		} else {
			parts(t, "a:"+s, "a", port, api.OK)
		}
		parts(t, "a:0"+s, "", 0, api.ErrName)
		parts(t, "a:-"+s, "", 0, api.ErrName)
	}
}

func TestP27_1PartsOfLongOnes(t *testing.T) {
	for _, size := range []int{228, 229, 230, 231, 232, 255, 1000} {
		long := strings.Repeat("a.", 1000)[:size-1] + "b"
		if size%2 == 0 { // a dot stands ahead of the last one just if it may
			long = strings.Repeat("a.", 1000)[:size-2] + "bb"
		}
		wrong := strings.Repeat("_", size)
		ported := long[:size-3] + ":80"
		if ported[size-4] == '.' {
			ported = long[:size-4] + "b:80"
		}
		if size > 230 {
			for _, s := range []string{long, wrong, ported} {
				parts(t, s, "", 0, api.ErrLong)
			}
			kinds(t, long, 1)
			continue
		}
		parts(t, long, long, 0, api.OK)
		parts(t, wrong, "", 0, api.ErrName)
		parts(t, ported, ported[:size-3], 80, api.OK)
	}
}

func TestP27_2PutTogetherThePartsAreIt(t *testing.T) {
	for s, want := range named {
		for _, text := range []string{s, s + ":1", s + ":65535", s + ":0", s + ":08"} {
			name, port, e := host.Parts(text)
			if e != api.OK {
				continue
			}
			if port != 0 {
				name += ":" + strconv.Itoa(port)
			}
			if name != text {
				t.Errorf("%q: %q", text, name)
			}
		}
		if want == 1 || want == 2 {
			if strings.Contains(s, ":") {
				t.Errorf("a name with a colon: %q", s)
			}
		}
		if open := strings.TrimSuffix(strings.TrimPrefix(s, "["), "]"); want == 3 && len(open) != len(s)-2 {
			t.Errorf("without brackets: %q", s)
		}
	}
}

func TestP7EveryCallEnds(t *testing.T) {
	for i := range 65536 {
		s := string([]byte{byte(i), byte(i >> 8)})
		for _, s := range []string{s, s[:1], "[" + s, s + "]", "[" + s + "]", "a:" + s, s + ":80", "1.2." + s} {
			host.Kind(s)
			host.Parts(s)
		}
	}
	for _, s := range []string{strings.Repeat(":", 1<<16), "[" + strings.Repeat("::", 1<<16) + "]", strings.Repeat(".", 1<<16), strings.Repeat("1", 1<<16), "a:" + strconv.Itoa(math.MaxInt)} {
		host.Kind(s)
		host.Parts(s)
	}
}
