package ident_test

import (
	"math"
	"math/rand"
	"regexp"
	"strings"
	"testing"

	"sealring/api"
	"sealring/b64"
	"sealring/host"
	"sealring/ident"
	"sealring/version"
)

func splits(t *testing.T, s string, sign byte, local, server string) {
	t.Helper()
	c, l, h, e := ident.Split(s)
	if c != sign || l != local || h != server || e != api.OK {
		t.Errorf("%q: %q, %q, %q, %d", s, c, l, h, e)
	}
}

func refuses(t *testing.T, s string, want api.Errno) {
	t.Helper()
	if c, l, h, e := ident.Split(s); c != 0 || l != "" || h != "" || e != want {
		t.Errorf("%q: %q, %q, %q, %d, not %d", s, c, l, h, e, want)
	}
}

func TestP28_1Parts(t *testing.T) {
	splits(t, "@a:b.c", '@', "a", "b.c")
	splits(t, "@bob:example.org:80", '@', "bob", "example.org:80")
	splits(t, "!X:b.c", '!', "X", "b.c")
	splits(t, "$x:1.2.3.4", '$', "x", "1.2.3.4")
	splits(t, "!a:[::1]", '!', "a", "[::1]")
	splits(t, "$a:[1:2:3:4:5:6:7:8]:1", '$', "a", "[1:2:3:4:5:6:7:8]:1")
}

func TestP28_1PartsOfEachSign(t *testing.T) {
	for c := range 256 {
		s := string([]byte{byte(c)})
		if c == '@' || c == '!' || c == '$' {
			splits(t, s+"x:a", byte(c), "x", "a")
		} else {
			refuses(t, s+"x:a", api.ErrID)
			refuses(t, s, api.ErrID)
		}
	}
	refuses(t, "", api.ErrID)
	refuses(t, ":", api.ErrID)
	refuses(t, "a@x:a", api.ErrID)
	refuses(t, " @x:a", api.ErrID)
}

func TestP28_1EachByteOfALocalPart(t *testing.T) {
	for c := range 256 {
		if c == ':' {
			continue
		}
		local := string([]byte{byte(c)})
		if strings.Contains("abcdefghijklmnopqrstuvwxyz0123456789._=-/+", local) {
			splits(t, "@"+local+":a", '@', local, "a")
			splits(t, "@x"+local+"y:a", '@', "x"+local+"y", "a")
		} else {
			refuses(t, "@"+local+":a", api.ErrID)
			refuses(t, "@x"+local+":a", api.ErrID)
		}
		for _, sign := range "!$" {
			if c > 32 && c < 127 {
				splits(t, string(sign)+local+":a", byte(sign), local, "a")
				splits(t, string(sign)+local+"Z:a", byte(sign), local+"Z", "a")
			} else {
				refuses(t, string(sign)+local+":a", api.ErrID)
				refuses(t, string(sign)+"Z"+local+":a", api.ErrID)
			}
		}
	}
}

func TestP28_1WhatIsWrong(t *testing.T) {
	for _, s := range []string{"@", "!", "$", "@a", "!a.b", "$x", "@:a", "!:a", "$:a", "@:", "@::", "@A:b.c", "@a b:c", "!\u00e9:a"} {
		refuses(t, s, api.ErrID)
	}
	for _, s := range []string{"@a:", "!a:", "@a::", "@a:b:", "@a:b:0", "@a:b:65536", "@a:-b", "@a:b..c", "@a:1.2.3", "$a:b:c", "!a:b c", "@a:[::1", "@a:\u00e9", "@a:b:c:1"} {
		refuses(t, s, api.ErrName)
	}
	refuses(t, "@A:-b", api.ErrID)
	refuses(t, "x:-b", api.ErrID)
	refuses(t, "@a b:", api.ErrID)
}

func TestP28_1HowLong(t *testing.T) {
	label := strings.Repeat("a", 49) + "."
	name := strings.Repeat(label, 4) + strings.Repeat("b", 30) // 230 bytes
	splits(t, "@"+strings.Repeat("x", 23)+":"+name, '@', strings.Repeat("x", 23), name)
	refuses(t, "@"+strings.Repeat("x", 24)+":"+name, api.ErrLong)
	refuses(t, "@x:"+name+"c", api.ErrLong) // host's
	refuses(t, "@X:"+name+"c", api.ErrID)
	splits(t, "!"+strings.Repeat("~", 252)+":a", '!', strings.Repeat("~", 252), "a")
	refuses(t, "!"+strings.Repeat("~", 253)+":a", api.ErrLong)
	refuses(t, strings.Repeat("~", 256), api.ErrLong)
	refuses(t, strings.Repeat("~", 255), api.ErrID)
	refuses(t, "@"+strings.Repeat(":", 255), api.ErrLong)
}

func TestP28_1AllShortTexts(t *testing.T) {
	whole := regexp.MustCompile(`^(?:(@)([a-z0-9._=/+-]+)|([!$])([!-9;-~]+)):(.*)$`)
	signs := []string{"@", "!", "$", ":", "a", "A", ".", "-", "1", " ", "\x7f"}
	var look func(s string, more int)
	look = func(s string, more int) {
		if m := whole.FindStringSubmatch(s); m == nil {
			refuses(t, s, api.ErrID)
		} else if _, _, e := host.Parts(m[5]); e != api.OK {
			refuses(t, s, e)
		} else {
			splits(t, s, (m[1] + m[3])[0], m[2]+m[4], m[5])
		}
		for i := 0; i < len(signs) && more > 0; i++ {
			look(s+signs[i], more-1)
		}
	}
	look("", 5)
}

func TestP28_2UsersAndRooms(t *testing.T) {
	for s, want := range map[string][2]api.Errno{
		"@a:b.c": {api.OK, api.ErrID}, "!X:b.c": {api.ErrID, api.OK}, "$x:b.c": {api.ErrID, api.ErrID}, "@bob:a": {api.OK, api.ErrID},
		"": {api.ErrID, api.ErrID}, "@A:b.c": {api.ErrID, api.ErrID}, "@a:": {api.ErrName, api.ErrName}, "!a:-": {api.ErrName, api.ErrName}, "$a:-": {api.ErrName, api.ErrName}, "#a:b": {api.ErrID, api.ErrID}, "a:b": {api.ErrID, api.ErrID}, "@a": {api.ErrID, api.ErrID}, "!a": {api.ErrID, api.ErrID},
		strings.Repeat("@", 256): {api.ErrLong, api.ErrLong}, "!" + strings.Repeat("a", 253) + ":b": {api.ErrLong, api.ErrLong},
	} {
		if e, f := ident.User(s), ident.Room(s); e != want[0] || f != want[1] {
			t.Errorf("%q: %d, %d", s, e, f)
		}
	}
}

func event(t *testing.T, v int, s string, want api.Errno) {
	t.Helper()
	if e := ident.Event(v, s); e != want {
		t.Errorf("Event(%d, %q): %d, not %d", v, s, e, want)
	}
}

func TestP28_2EventsOfVersionsThatAreNone(t *testing.T) {
	for _, v := range []int{0, -1, 12, math.MinInt, math.MaxInt} {
		for _, s := range []string{"", "$x:a", "$" + strings.Repeat("A", 43), strings.Repeat("A", 300)} {
			event(t, v, s, api.ErrVersion)
		}
	}
}

func TestP28_2EventsOfOwnVersions(t *testing.T) {
	for v := 1; v <= 2; v++ {
		event(t, v, "$x:a", api.OK)
		event(t, v, "$~!:[::]:8", api.OK)
		event(t, v, "@x:a", api.ErrID)
		event(t, v, "!x:a", api.ErrID)
		event(t, v, "$"+strings.Repeat("A", 43), api.ErrID)
		event(t, v, "", api.ErrID)
		event(t, v, "$x:", api.ErrName)
		event(t, v, "@x:", api.ErrName)
		event(t, v, "$"+strings.Repeat("x", 252)+":a", api.OK)
		event(t, v, "$"+strings.Repeat("x", 253)+":a", api.ErrLong)
	}
}

func TestP28_2EventsOfLaterVersions(t *testing.T) {
	const sign = "$"
	for v := 3; v <= api.Versions; v++ {
		r, _ := version.Of(v)
		event(t, v, sign+strings.Repeat("A", 43), api.OK)
		event(t, v, "@"+strings.Repeat("A", 43), api.ErrID)
		event(t, v, strings.Repeat("A", 44), api.ErrID)
		event(t, v, "$$"+strings.Repeat("A", 42), api.ErrID)
		event(t, v, "$x:a", api.ErrID)
		event(t, v, "", api.ErrID)
		event(t, v, sign, api.ErrID)
		for n := range 300 {
			want := api.ErrID
			if n == 43 {
				want = api.OK
			} else if n > 254 {
				want = api.ErrLong
			}
			event(t, v, sign+strings.Repeat("A", n), want)
		}
		event(t, v, strings.Repeat(" ", 256), api.ErrLong)
		for c := range 256 { // of the last sign the two lowest bits fill up
			s := string([]byte{byte(c)})
			want, last := api.ErrID, api.ErrID
			if strings.Contains("+/", s) && !r.URL || strings.Contains("-_", s) && r.URL || c >= 'A' && c <= 'Z' || c >= 'a' && c <= 'z' || c >= '0' && c <= '9' {
				want = api.OK
			}
			if strings.Contains("AEIMQUYcgkosw048", s) {
				last = api.OK
			}
			event(t, v, sign+s+strings.Repeat("A", 42), want)
			event(t, v, sign+strings.Repeat("B", 20)+s+strings.Repeat("w", 22), want)
			event(t, v, sign+strings.Repeat("A", 42)+s, last)
		}
		for _, hash := range []string{strings.Repeat("\xff", 32), strings.Repeat("\xfb\xef\xbe", 11)[:32], strings.Repeat("\x00", 32)} {
			plain, url := sign+b64.Encode(false, hash), sign+b64.Encode(true, hash)
			if plain == url {
				event(t, v, plain, api.OK)
			} else if r.URL {
				event(t, v, url, api.OK)
				event(t, v, plain, api.ErrID)
			} else {
				event(t, v, url, api.ErrID)
				event(t, v, plain, api.OK)
			}
			event(t, v, sign+b64.Encode(r.URL, hash[1:]), api.ErrID)
			event(t, v, sign+b64.Encode(r.URL, hash+"\x00"), api.ErrID)
			event(t, v, plain+"=", api.ErrID)
		}
	}
}

func key(t *testing.T, s, want string, e api.Errno) {
	t.Helper()
	if got, f := ident.Key(s); got != want || f != e {
		t.Errorf("Key(%q): %q, %d", s, got, f)
	}
}

func TestP28_3Keys(t *testing.T) {
	key(t, "ed25519:k1", "k1", api.OK)
	key(t, "ed25519:a_1", "a_1", api.OK)
	key(t, "ed25519:_", "_", api.OK)
	key(t, "ed25519:0", "0", api.OK)
	key(t, "ed25519:ed25519", "ed25519", api.OK)
	for _, s := range []string{"", "ed25519:", "ed25519", "k1", ":k1", "ED25519:k1", "ed25519 :k1", " ed25519:k1", "ed25518:k1", "ed25519:k1 ", "ed25519:k 1", "ed25519:k:1", "ed25519::k", "ed25519:\u00e9", "curve25519:k1", "xed25519:k1", "ed25519ed25519:k"} {
		key(t, s, "", api.ErrID)
	}
	for c := range 256 {
		s := string([]byte{byte(c)})
		if c >= 'A' && c <= 'Z' || c >= 'a' && c <= 'z' || c >= '0' && c <= '9' || c == '_' {
			key(t, "ed25519:"+s, s, api.OK)
			key(t, "ed25519:a"+s+"b", "a"+s+"b", api.OK)
		} else {
			key(t, "ed25519:"+s, "", api.ErrID)
			key(t, "ed25519:a"+s, "", api.ErrID)
		}
	}
	long := strings.Repeat("k", 247)
	key(t, "ed25519:"+long, long, api.OK)
	key(t, "ed25519:"+long+"k", "", api.ErrLong)
	key(t, strings.Repeat(" ", 255), "", api.ErrID)
	key(t, strings.Repeat(" ", 256), "", api.ErrLong)
}

func TestP7WhateverBytesCome(t *testing.T) {
	r := rand.New(rand.NewSource(7))
	const likely = "@!$:ab.1[]AZ_-ed25519:"
	for range 30000 {
		b := make([]byte, r.Intn(60))
		for i := range b {
			if b[i] = byte(r.Intn(256)); r.Intn(30) > 0 {
				b[i] = likely[r.Intn(len(likely))]
			}
		}
		s := string(b)
		if c, l, h, e := ident.Split(s); e == api.OK && string(c)+l+":"+h != s || (e == api.OK) != (c != 0) {
			t.Errorf("%q: %d", s, e)
		}
		ident.User(s)
		ident.Room(s)
		ident.Event(r.Intn(14)-1, s)
		ident.Key(s)
	}
}
