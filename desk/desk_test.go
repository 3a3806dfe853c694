package desk_test

import (
	"crypto/ed25519"
	"encoding/base64"
	"encoding/hex"
	"math/rand"
	"regexp"
	"slices"
	"strconv"
	"strings"
	"testing"

	"sealring/api"
	"sealring/canon"
	"sealring/decode"
	"sealring/desk"
	"sealring/edkey"
	"sealring/envelope"
	"sealring/eventid"
	"sealring/keyring"
	"sealring/octet"
	"sealring/parse"
	"sealring/report"
	"sealring/room"
)

func TestP50_1New(t *testing.T) {
	d := desk.New()
	says(t, d, "show", "room - 11 0\n")
	holds(t, d, 11)
	if d.Room().Name() != "" || d.Len() != 0 {
		t.Error(d.Room().Name(), d.Len())
	}
	// It has a ring, though there is no key in it.
	m := whole(t, 11, 1)
	says(t, d, "event "+form(t, m), refused(idOf(t, 11, m), api.ErrNone))
	// Another one has another ring and another room.
	says(t, d, "seed a.b ed25519:1 "+seedOf(1), "public "+publicOf(1)+"\n")
	says(t, d, "event "+form(t, m), passed(idOf(t, 11, m)))
	other := desk.New()
	says(t, other, "event "+form(t, m), refused(idOf(t, 11, m), api.ErrNone))
	holds(t, other, 11)
	holds(t, d, 11, idOf(t, 11, m))
}

func TestP50_1Room(t *testing.T) {
	d := desk.New()
	m, n := whole(t, 11, 1), whole(t, 11, 2)
	x, y := idOf(t, 11, m), idOf(t, 11, n)
	early := d.Room()
	says(t, d, "key a.b ed25519:1 "+publicOf(1), "key a.b ed25519:1\n")
	says(t, d, "event "+form(t, m), passed(x))
	if early.Len() != 0 {
		t.Error("what is added to the desk's room is added to a copy")
	}
	// A copy asks the same ring for keys; what is done to it isn't done to the desk's.
	if l := early.Add(read(t, form(t, n))); len(l) != 1 || l[0] != (api.Verdict{ID: y}) {
		t.Errorf("%+v", l)
	}
	c := d.Room()
	if e := c.Redact(x); e != api.OK {
		t.Error(e)
	}
	holds(t, d, 11, x)
	if e, ok := d.Room().Event(x); !ok || formOf(t, e) != form(t, m) {
		t.Error("a copy's event was redacted, and with it the desk's")
	}
	says(t, d, "event "+form(t, m), refused(x, api.ErrTwice))
	says(t, d, "redact "+x, "redacted "+x+"\n")
	if e, _ := d.Room().Event(x); formOf(t, e) != form(t, kept(11, m)) {
		t.Errorf("%+v", e)
	}
	says(t, d, "version 4", "version 4\n")
	if d.Room().Version() != 4 || c.Version() != 11 || c.Len() != 1 {
		t.Error("a copy is another room than the desk's next one")
	}
}

func TestP50_1Run(t *testing.T) {
	m := whole(t, 5, 1)
	id := idOf(t, 5, m)
	for text, want := range map[string]string{
		"":                "",
		"\n":              "error 6\n",
		"\n\n":            "error 6\nerror 6\n",
		"show":            "room - 11 0\n",
		"show\n":          "room - 11 0\n",
		"show\n\nshow":    "room - 11 0\nerror 6\nroom - 11 0\n",
		"show\r\nshow":    "error 6\nroom - 11 0\n",
		"version 3\nshow": "version 3\nroom - 3 0\n",
		"show\nversion 3": "room - 11 0\nversion 3\n",
		// What a line does stays for those behind it.
		"version 5\nseed a.b ed25519:1 " + seedOf(1) + "\nevent " + form(t, m) + "\nevent " + form(t, m) + "\nshow\n": "version 5\npublic " + publicOf(1) + "\n" + passed(id) + refused(id, api.ErrTwice) + "room \"!r:o\" 5 1\nhead " + id + "\n",
		"version 12\nshow\nnothing\nversion 3\nevent 1\n":                                                             "error 6\nroom - 11 0\nerror 6\nversion 3\nevent - refused 16\n",
	} {
		for range 2 { // each of a new desk
			if got := desk.Run(text); got != want {
				t.Errorf("%s: %q, not %q", shown(text), got, want)
			}
		}
	}
	if s := desk.Run("id {}\n"); !regexp.MustCompile(`^id \$[A-Za-z0-9_-]{43}\n$`).MatchString(s) {
		t.Error(s)
	}
}

func TestP50_2Version(t *testing.T) {
	m := whole(t, 11, 1)
	for v := 1; v <= 11; v++ {
		d := deskOf(t, 11)
		says(t, d, "event "+form(t, m), passed(idOf(t, 11, m)))
		n := strconv.Itoa(v)
		says(t, d, "version "+n, "version "+n+"\n")
		says(t, d, "show", "room - "+n+" 0\n")
		holds(t, d, v)
		// The ring is the same one, and asked in the new version.
		x := whole(t, v, 2)
		says(t, d, "event "+form(t, x), passed(idOf(t, v, x)))
		says(t, d, "key a.b ed25519:1 "+publicOf(2), wrong(api.ErrTwice))
		says(t, d, "version "+n, "version "+n+"\n") // a new one, of the same version too
		holds(t, d, v)
	}
	d := deskOf(t, 11)
	says(t, d, "event "+form(t, m), passed(idOf(t, 11, m)))
	for _, n := range []string{"", "0", "12", "-1", "01", "011", "+1", "1.0", "1e0", "1 ", " 1", "1 2", "a", "1a", "0x1", "٣", "1\t", "1\n", "4294967297", "18446744073709551617", "9007199254740992", "111", "-", "\x01", "null", "\"1\""} {
		says(t, d, "version "+n, wrong(api.ErrForm))
	}
	says(t, d, "version", wrong(api.ErrForm))
	says(t, d, "version1", wrong(api.ErrForm))
	holds(t, d, 11, idOf(t, 11, m))
}

// hexes are what no bytes have as their digits.
var hexes = []string{"0", "0g", "AB", "aB", "0 ", " 00", "00 ", "00 00", "0x00", "é", "\xff\xff", "00\n", "000"}

func TestP50_2Key(t *testing.T) {
	long := strings.Repeat("a", 231)
	notBelow := "ed" + strings.Repeat("ff", 30) + "7f" // the prime
	noPoint := "02" + strings.Repeat("00", 31)
	for _, x := range []struct {
		rest string
		e    api.Errno
	}{
		{"a.b ed25519:1 " + publicOf(2), api.ErrTwice},
		{"", api.ErrName}, {" ", api.ErrName}, {"  ", api.ErrName}, {"  " + publicOf(1), api.ErrName}, {" ed25519:1 " + publicOf(1), api.ErrName}, {"a..b ed25519:1 " + publicOf(1), api.ErrName}, {long + " ed25519:1 " + publicOf(1), api.ErrLong},
		{"a.b", api.ErrID}, {"a.b ", api.ErrID}, {"a.b  " + publicOf(1), api.ErrID}, {"a.b ed25519: " + publicOf(1), api.ErrID}, {"a.b 1 " + publicOf(1), api.ErrID}, {"a.b ed25519:" + long + long + " " + publicOf(1), api.ErrLong}, {"a.b\ted25519:2 " + publicOf(1), api.ErrName},
		{"a.b ed25519:2", api.ErrArg}, {"a.b ed25519:2 ", api.ErrArg}, {"a.b ed25519:2 00", api.ErrArg}, {"a.b ed25519:2 " + publicOf(1) + "00", api.ErrArg}, {"a.b ed25519:2 " + notBelow, api.ErrRange}, {"a.b ed25519:2 " + noPoint, api.ErrPoint},
		// Whatever else is wrong, digits that are none are told first; what is wrong with the point ahead of a key that is here.
		{"a..b 1 0", api.ErrForm}, {"a.b 1 0", api.ErrForm}, {"  0", api.ErrForm}, {"a.b ed25519:1 00", api.ErrArg},
		{"a.b ed25519:2 " + strings.ToUpper(publicOf(1)), api.ErrForm}, {"a.b ed25519:2  " + publicOf(1), api.ErrForm}, {"a.b ed25519:2 " + publicOf(1) + " ", api.ErrForm}, {"a.b ed25519:2 " + publicOf(1) + " a", api.ErrForm}, {" a.b ed25519:2 " + publicOf(1), api.ErrForm}, {"a.b  ed25519:2 " + publicOf(1), api.ErrForm},
	} {
		d := deskOf(t, 11)
		says(t, d, "key "+x.rest, wrong(x.e))
		if public, ok := d.Get("a.b", "ed25519:1"); d.Len() != 1 || !ok || public != string(key(1).Public().(ed25519.PublicKey)) {
			t.Errorf("%s: %d keys", shown(x.rest), d.Len())
		}
	}
	d := deskOf(t, 11)
	says(t, d, "key", wrong(api.ErrName))
	for _, digits := range hexes {
		says(t, d, "key a.b ed25519:2 "+digits, wrong(api.ErrForm))
	}
	says(t, d, "key a.b ed25519:2 "+publicOf(2), "key a.b ed25519:2\n")
	says(t, d, "key [::1]:80 ed25519:1 "+publicOf(2), "key [::1]:80 ed25519:1\n")
	says(t, d, "key A.b ed25519:a_Z "+publicOf(1), "key A.b ed25519:a_Z\n")
	var all []api.Sig
	for s := range d.All() {
		all = append(all, s)
	}
	want := []api.Sig{{Server: "A.b", Key: "ed25519:a_Z", Value: public(1)}, {Server: "[::1]:80", Key: "ed25519:1", Value: public(2)}, {Server: "a.b", Key: "ed25519:1", Value: public(1)}, {Server: "a.b", Key: "ed25519:2", Value: public(2)}}
	if !slices.Equal(all, want) {
		t.Errorf("%+v", all)
	}
}

func TestP50_2Seed(t *testing.T) {
	d := desk.New()
	for i := 1; i < 5; i++ {
		says(t, d, "seed a.b ed25519:"+strconv.Itoa(i)+" "+seedOf(i), "public "+publicOf(i)+"\n")
		if public, ok := d.Get("a.b", "ed25519:"+strconv.Itoa(i)); !ok || hex.EncodeToString([]byte(public)) != publicOf(i) {
			t.Errorf("%d: %x", i, public)
		}
	}
	says(t, d, "seed a.b ed25519:x 9d61b19deffd5a60ba844af492ec2cc44449c5697b326919703bac031cae7f60", "public d75a980182b10ab7d54bfed3c964073a0ee172f3daa62325af021a68f707511a\n")
	m := whole(t, 11, 1)
	says(t, d, "event "+form(t, m), passed(idOf(t, 11, m)))
	for rest, e := range map[string]api.Errno{
		"a.b ed25519:1 " + seedOf(1): api.ErrTwice, "a.b ed25519:1 " + seedOf(7): api.ErrTwice,
		"": api.ErrArg, "a.b": api.ErrArg, "a.b ed25519:9": api.ErrArg, "a.b ed25519:9 ": api.ErrArg, "a.b ed25519:9 " + seedOf(1)[2:]: api.ErrArg, "a.b ed25519:9 " + seedOf(1) + "00": api.ErrArg,
		// A seed that is none is told ahead of what is wrong with its names, and digits that are none ahead of both.
		"a..b 1 00": api.ErrArg, "a.b ed25519:1 00": api.ErrArg, "a..b 1 0": api.ErrForm, "a.b ed25519:1 0": api.ErrForm,
		"a..b 1 " + seedOf(1): api.ErrName, " ed25519:9 " + seedOf(1): api.ErrName, "a.b 1 " + seedOf(1): api.ErrID, "a.b  " + seedOf(1): api.ErrID, strings.Repeat("a", 231) + " ed25519:9 " + seedOf(1): api.ErrLong,
		"a.b ed25519:9 " + seedOf(1) + " ": api.ErrForm, "a.b ed25519:9  " + seedOf(1): api.ErrForm, "a.b ed25519:9 " + strings.Repeat("AB", 32): api.ErrForm,
	} {
		says(t, d, "seed "+rest, wrong(e))
	}
	says(t, d, "seed", wrong(api.ErrArg))
	for _, digits := range hexes {
		says(t, d, "seed a.b ed25519:9 "+digits, wrong(api.ErrForm))
	}
	if d.Len() != 5 {
		t.Error(d.Len())
	}
}

func TestP50_2Sign(t *testing.T) {
	t.Parallel()
	for v := 1; v <= 11; v++ {
		d := deskOf(t, v)
		for number := range 3 {
			m := with(hashed(t, bare(v, number)), "signatures", fields{"o": fields{"ed25519:1": "x"}, "c.d": 1, "e.f": fields{}})
			signature := base64Of(ed25519.Sign(key(3), signing(t, v, m)))
			for server, servers := range map[string]fields{
				"a.b":   {"o": fields{"ed25519:1": "x"}, "c.d": 1, "e.f": fields{}, "a.b": fields{"ed25519:k": signature}},
				"o":     {"o": fields{"ed25519:1": "x", "ed25519:k": signature}, "c.d": 1, "e.f": fields{}},
				"c.d":   {"o": fields{"ed25519:1": "x"}, "c.d": fields{"ed25519:k": signature}, "e.f": fields{}},
				"e.f":   {"o": fields{"ed25519:1": "x"}, "c.d": 1, "e.f": fields{"ed25519:k": signature}},
				"[::1]": {"o": fields{"ed25519:1": "x"}, "c.d": 1, "e.f": fields{}, "[::1]": fields{"ed25519:k": signature}},
			} {
				want := "signed " + form(t, with(m, "signatures", servers)) + "\n"
				line := "sign " + server + " ed25519:k " + seedOf(3) + " "
				says(t, d, line+form(t, m), want)
				says(t, d, line+" \t\r "+spread(form(t, m))+"  ", want) // TEXT is all that is left
			}
		}
		holds(t, d, v)
		if d.Len() != 1 {
			t.Error("signing puts a key into the ring")
		}
	}
	d := desk.New()
	says(t, d, "sign a.b ed25519:1 "+seedOf(1)+" {}", "signed "+form(t, fields{"signatures": fields{"a.b": fields{"ed25519:1": base64Of(ed25519.Sign(key(1), []byte("{}")))}}})+"\n")
}

func TestP50_2SignWhatIsWrong(t *testing.T) {
	d := deskOf(t, 7)
	line := "sign a.b ed25519:1 " + seedOf(1)
	for rest, e := range map[string]api.Errno{
		// Digits that are none come first, then the text, then the server, the key, the node, the seed.
		"a..b 1 0 [": api.ErrForm, "a.b ed25519:1 0 {}": api.ErrForm, "a.b ed25519:1 " + strings.Repeat("AB", 32) + " {}": api.ErrForm,
		"": api.ErrShort, "a.b": api.ErrShort, "a.b ed25519:1": api.ErrShort, "a.b ed25519:1 ": api.ErrShort, "a.b ed25519:1  ": api.ErrShort, "a..b 1 00 [": api.ErrShort, "a..b 1 00 ]": api.ErrForm, "a..b 1 00 1 2": api.ErrEnd, "a..b 1 00 01": api.ErrNumber,
		"a..b 1 00 1": api.ErrName, strings.Repeat("a", 231) + " 1 00 1": api.ErrLong, " 1 00 1": api.ErrName, "a.b 1 00 1": api.ErrID, "a.b  00 1": api.ErrID, "a.b ed25519:1 00 1": api.ErrType, "a.b ed25519:1 00 {}": api.ErrArg, "a.b ed25519:1  {}": api.ErrArg, "a.b ed25519:1 " + seedOf(1) + "00 {}": api.ErrArg,
	} {
		says(t, d, "sign "+rest, wrong(e))
	}
	says(t, d, "sign", wrong(api.ErrShort))
	for _, digits := range hexes {
		if !strings.Contains(digits, " ") {
			says(t, d, "sign a.b ed25519:1 "+digits+" {}", wrong(api.ErrForm))
		}
	}
	for text, e := range map[string]api.Errno{"": api.ErrShort, " ": api.ErrShort, "{": api.ErrShort, "{}}": api.ErrEnd, "{} {}": api.ErrEnd, "{} x": api.ErrForm, `{"a":1,"a":1}`: api.ErrTwice, `{"a":1.0}`: api.ErrNumber, "[]": api.ErrType, "null": api.ErrType, `"{}"`: api.ErrType, strings.Repeat("[", 65): api.ErrDeep} {
		says(t, d, line+" "+text, wrong(e))
	}
	says(t, d, line, wrong(api.ErrShort))
}

func TestP50_2Event(t *testing.T) {
	t.Parallel()
	for v := 1; v <= 11; v++ {
		for number := range 3 {
			d, m := deskOf(t, v), whole(t, v, number)
			id := idOf(t, v, m)
			says(t, d, "event "+form(t, with(m, "signatures", fields{})), refused(id, api.ErrNone))
			says(t, d, "event "+form(t, signed(t, v, 2, m)), refused(id, api.ErrSign))
			says(t, d, "event "+form(t, without(m, "sender")), refused("-", api.ErrField))
			holds(t, d, v)
			says(t, d, "event  "+spread(form(t, m))+" \r\n", passed(id))
			says(t, d, "event "+form(t, m), refused(id, api.ErrTwice))
			x := elsewhere(t, v, number+1)
			says(t, d, "event "+form(t, x), refused(idOf(t, v, x), api.ErrID))
			y := whole(t, v, number+2)
			says(t, d, "event "+form(t, with(y, "body", "b")), redacted(idOf(t, v, y)))
			holds(t, d, v, id, idOf(t, v, y))
			r := d.Room()
			if e, _ := r.Event(id); formOf(t, e) != form(t, m) {
				t.Errorf("%+v", e)
			}
			if e, _ := r.Event(idOf(t, v, y)); formOf(t, e) != form(t, kept(v, with(y, "body", "b"))) {
				t.Errorf("%+v", e)
			}
		}
	}
	d := deskOf(t, 11)
	for text, want := range map[string]string{
		"": wrong(api.ErrShort), " ": wrong(api.ErrShort), "{": wrong(api.ErrShort), "x": wrong(api.ErrForm), "{}{}": wrong(api.ErrEnd), `{"a":1,"a":1}`: wrong(api.ErrTwice), `"\x"`: wrong(api.ErrEscape), "\"\xff\"": wrong(api.ErrText), "9007199254740992": wrong(api.ErrRange),
		"1": refused("-", api.ErrType), "null": refused("-", api.ErrType), "[]": refused("-", api.ErrType), "{}": refused("-", api.ErrField),
	} {
		says(t, d, "event "+text, want)
	}
	says(t, d, "event", wrong(api.ErrShort))
	holds(t, d, 11)
}

func TestP50_2Txn(t *testing.T) {
	t.Parallel()
	for v := 1; v <= 11; v++ {
		d := deskOf(t, v)
		a, b, c := whole(t, v, 1), whole(t, v, 2), whole(t, v, 3)
		x, y, z := idOf(t, v, a), idOf(t, v, b), idOf(t, v, c)
		far := elsewhere(t, v, 4)
		unsigned := with(c, "signatures", fields{})
		text := txnOf(t, []fields{a, unsigned, with(b, "body", "b"), {}, a, far}, eduOf("m.typing"), eduOf("b"), eduOf("m.typing"))
		judged := passed(x) + refused(z, api.ErrNone) + redacted(y) + refused("-", api.ErrField) + passed(x) + passed(idOf(t, v, far))
		head := "transaction \"a.b\" 7 6 3\n" + judged + "edu \"b\" 1\nedu \"m.typing\" 2\n"
		says(t, d, "txn "+text, head+passed(x)+redacted(y)+refused(x, api.ErrTwice)+refused(idOf(t, v, far), api.ErrID))
		holds(t, d, v, x, y)
		if e, _ := d.Room().Event(y); formOf(t, e) != form(t, kept(v, with(b, "body", "b"))) {
			t.Errorf("%+v", e)
		}
		// The verdicts on what came are the same when it comes again; but it is here.
		says(t, d, "txn  "+spread(text)+" ", head+refused(x, api.ErrTwice)+refused(y, api.ErrTwice)+refused(x, api.ErrTwice)+refused(idOf(t, v, far), api.ErrID))
		says(t, d, "txn "+txnOf(t, nil), "transaction \"a.b\" 7 0 0\n")
		says(t, d, "txn "+txnOf(t, []fields{c}), "transaction \"a.b\" 7 1 0\n"+passed(z)+passed(z))
		holds(t, d, v, x, y, z)
		// The event is judged by the ring as it is then, and in the room's version.
		fresh := desk.New()
		says(t, fresh, "version "+strconv.Itoa(v), "version "+strconv.Itoa(v)+"\n")
		says(t, fresh, "txn "+txnOf(t, []fields{a}), "transaction \"a.b\" 7 1 0\n"+refused(x, api.ErrNone))
		holds(t, fresh, v)
	}
}

func TestP50_2TxnRefused(t *testing.T) {
	d := deskOf(t, 6)
	ok := txnOf(t, []fields{whole(t, 6, 1)})
	for text, want := range map[string]string{
		"": "5 - 0", " ": "5 - 1", "{": "5 - 1", "[1,]": "6 - 3", "{}": `15 "origin" 0`, "[]": "16 - 0", "1 2": "14 - 2",
		`{"origin":1}`: `16 "origin" 0`, `{"origin":"a..b","origin_server_ts":0,"pdus":[]}`: `25 "origin" 0`, `{"origin":"a.b","origin_server_ts":-1,"pdus":[]}`: `2 "origin_server_ts" 0`, `{"origin":"a.b","origin_server_ts":0,"pdus":[],"a b":1}`: `26 "a b" 0`,
		ok + "x": "6 - " + strconv.Itoa(len(ok)), ok[:len(ok)-1]: "5 - " + strconv.Itoa(len(ok)-1),
		strings.Repeat(" ", 1<<18+1): "4 - 0", ok + strings.Repeat(" ", 1<<18+1-len(ok)): "4 - 0",
	} {
		says(t, d, "txn "+text, "transaction refused "+want+"\n")
	}
	says(t, d, "txn", "transaction refused 5 - 0\n")
	holds(t, d, 6)
	id := idOf(t, 6, whole(t, 6, 1))
	says(t, d, "txn "+ok+strings.Repeat(" ", 1<<18-len(ok)), "transaction \"a.b\" 7 1 0\n"+passed(id)+passed(id))
}

func TestP50_2ID(t *testing.T) {
	for v := 1; v <= 11; v++ {
		d := deskOf(t, v)
		for number := range 4 {
			m := whole(t, v, number)
			id := "id " + idOf(t, v, m) + "\n"
			says(t, d, "id "+form(t, m), id)
			says(t, d, "id  "+spread(form(t, m))+"\t", id)
			says(t, d, "id "+form(t, kept(v, without(m, "signatures"))), id)
		}
		holds(t, d, v)
		for text, e := range map[string]api.Errno{"": api.ErrShort, " ": api.ErrShort, "{": api.ErrShort, "{}}": api.ErrEnd, `{"a":1,"a":1}`: api.ErrTwice, "tru": api.ErrForm} {
			says(t, d, "id "+text, wrong(e))
		}
		says(t, d, "id", wrong(api.ErrShort))
		if isOwn(v) {
			says(t, d, "id {}", wrong(api.ErrField))
			says(t, d, "id 1", wrong(api.ErrField))
			says(t, d, `id {"event_id":"$a"}`, wrong(api.ErrID))
			says(t, d, `id {"event_id":"$a:b..c"}`, wrong(api.ErrName))
			says(t, d, `id {"event_id":"$a:b.c"}`, "id $a:b.c\n")
		} else {
			says(t, d, "id 1", wrong(api.ErrType))
		}
	}
}

func TestP50_2Redact(t *testing.T) {
	for v := 1; v <= 11; v++ {
		d, m := deskOf(t, v), whole(t, v, 1)
		id := idOf(t, v, m)
		says(t, d, "redact "+id, wrong(api.ErrNone))
		says(t, d, "event "+form(t, m), passed(id))
		for _, other := range []string{"", " ", id + " ", " " + id, id[1:], "$", id + "\n", "x " + id, id + " x"} {
			says(t, d, "redact "+other, wrong(api.ErrNone))
		}
		says(t, d, "redact", wrong(api.ErrNone))
		if e, _ := d.Room().Event(id); formOf(t, e) != form(t, m) {
			t.Errorf("%+v", e)
		}
		for range 2 {
			says(t, d, "redact "+id, "redacted "+id+"\n")
			if e, _ := d.Room().Event(id); formOf(t, e) != form(t, kept(v, m)) {
				t.Errorf("%+v", e)
			}
		}
		says(t, d, "event "+form(t, m), refused(id, api.ErrTwice))
		holds(t, d, v, id)
		says(t, d, "show", "room \"!r:o\" "+strconv.Itoa(v)+" 1\nhead "+id+"\n")
	}
}

func TestP50_2Show(t *testing.T) {
	for v := 1; v <= 11; v++ {
		d, n := deskOf(t, v), strconv.Itoa(v)
		says(t, d, "show", "room - "+n+" 0\n")
		a := whole(t, v, 1)
		x := idOf(t, v, a)
		gone := "$gone:a.b"
		if !isOwn(v) {
			gone = "$" + strings.Repeat("A", 43)
		}
		b := naming(t, v, 5, gone, x)
		y := idOf(t, v, b)
		c := naming(t, v, 3, y)
		z := idOf(t, v, c)
		for _, m := range []fields{b, a, c} {
			says(t, d, "event "+form(t, m), passed(idOf(t, v, m)))
		}
		want := "room \"!r:o\" " + n + " 3\nhead " + z + "\nmissing " + gone + "\nodd " + y + " missing " + gone + "\nodd " + z + " depth " + y + "\n"
		for _, line := range []string{"show", "show ", "show"} {
			says(t, d, line, want)
		}
		for _, line := range []string{"show  ", "show x", "show  x", "show\t", "show\n", "show \n", " show", "Show", "shows"} {
			says(t, d, line, wrong(api.ErrForm))
		}
		holds(t, d, v, y, x, z)
	}
}

func TestP50_2Others(t *testing.T) {
	d := deskOf(t, 11)
	for _, line := range []string{"", " ", "  ", "x", "nothing", "nothing {}", "Event {}", "EVENT {}", "events {}", "even {}", "event{}", " event {}", "\tevent {}", "event\t{}", "event\n{}", "verdict", "room", "error 6", "-", "error", "public", "signed {}", "redacted $a", "\xff", "é", "\x00", "line", "help", "version\t3", "add", "put", "get", "len", "all"} {
		says(t, d, line, wrong(api.ErrForm))
	}
	holds(t, d, 11)
	if d.Len() != 1 {
		t.Error(d.Len())
	}
}

// plain is a desk as the chapter's words have it, line by line.
type plain struct {
	ring *keyring.Ring
	room *room.Room
}

func newPlain() *plain {
	p := &plain{ring: keyring.New()}
	p.room, _ = room.New(11, p.ring)
	return p
}

// words are a line's, of which so many are told; the last one is all that is left.
func words(line string, many int) []string {
	l := strings.SplitN(line, " ", many)
	for len(l) < many {
		l = append(l, "")
	}
	return l
}

func (p *plain) do(line string) string {
	switch words(line, 2)[0] {
	case "version":
		n := words(line, 2)[1]
		if !slices.Contains(strings.Fields("1 2 3 4 5 6 7 8 9 10 11"), n) {
			return wrong(6)
		}
		v, _ := strconv.Atoi(n)
		p.room, _ = room.New(v, p.ring)
		return "version " + n + "\n"
	case "key":
		l := words(line, 4)
		b, e := octet.Unhex(l[3])
		if e == api.OK {
			e = p.ring.Put(l[1], l[2], b)
		}
		if e != api.OK {
			return wrong(e)
		}
		return "key " + l[1] + " " + l[2] + "\n"
	case "seed":
		l := words(line, 4)
		b, e := octet.Unhex(l[3])
		if e == api.OK {
			b, e = edkey.Public(b)
		}
		if e == api.OK {
			e = p.ring.Put(l[1], l[2], b)
		}
		if e != api.OK {
			return wrong(e)
		}
		return "public " + hex.EncodeToString([]byte(b)) + "\n"
	case "sign":
		return p.sign(words(line, 5))
	case "show":
		if line != "show" && line != "show " {
			return wrong(6)
		}
		return report.Room(p.room)
	case "redact":
		id := words(line, 2)[1]
		if e := p.room.Redact(id); e != api.OK {
			return wrong(e)
		}
		return "redacted " + id + "\n"
	case "txn":
		r, name, e := decode.Decode(p.room.Version(), p.ring, words(line, 2)[1])
		out := report.Result(r, name, e)
		for _, n := range r.Kept {
			out += report.Verdict(p.room.Add(n)[0])
		}
		return out
	case "event", "id":
		return p.read(words(line, 2))
	}
	return wrong(6)
}

func (p *plain) sign(l []string) string {
	b, e := octet.Unhex(l[3])
	if e != api.OK {
		return wrong(e)
	}
	n, _, e := parse.Parse(l[4])
	if e == api.OK {
		n, e = envelope.Sign(p.room.Version(), n, l[1], l[2], b)
	}
	s := ""
	if e == api.OK {
		s, e = canon.Encode(n)
	}
	if e != api.OK {
		return wrong(e)
	}
	return "signed " + s + "\n"
}

func (p *plain) read(l []string) string {
	n, _, e := parse.Parse(l[1])
	if e != api.OK {
		return wrong(e)
	}
	if l[0] == "event" {
		return report.Verdict(p.room.Add(n)[0])
	}
	id, e := eventid.Of(p.room.Version(), n)
	if e != api.OK {
		return wrong(e)
	}
	return "id " + id + "\n"
}

// lines are such as a desk may get, of that version mostly.
func lines(t *testing.T, rnd *rand.Rand, v int) func() string {
	t.Helper()
	pick := func(l ...string) string { return l[rnd.Intn(len(l))] }
	var events, ids []string
	for i := range 4 {
		for _, m := range []fields{whole(t, v, i), with(whole(t, v, i), "body", "b"), naming(t, v, i+2, idOf(t, v, whole(t, v, i))), signed(t, v, 2, bare(v, i)), elsewhere(t, v, i), with(whole(t, v, i), "depth", -1)} {
			events, ids = append(events, form(t, m)), append(ids, idOf(t, v, m))
		}
	}
	text := func() string {
		return pick(pick(events...), pick(events...), "{}", "1", "[", "", " ", `{"event_id":"$a:b.c"}`)
	}
	txn := func() string {
		var l []string
		for range rnd.Intn(4) {
			l = append(l, pick(events...))
		}
		return `{"origin":"a.b","origin_server_ts":` + pick("0", "1", "-1") + `,"pdus":[` + strings.Join(l, ",") + `],"edus":[` + pick("", "", form(t, eduOf("x")), "1") + `]}`
	}
	server := func() string { return pick("a.b", "a.b", "o", "[::1]", "", "a..b") }
	name := func() string { return pick("ed25519:1", "ed25519:1", "ed25519:2", "1", "") }
	digits := func() string { return pick(seedOf(1), publicOf(1), publicOf(2), seedOf(2), "00", "", "0g") }
	return func() string {
		blank := pick(" ", " ", " ", " ", " ", " ", "  ")
		switch rnd.Intn(12) {
		case 0:
			return "version" + blank + pick(strconv.Itoa(v), strconv.Itoa(v), "12", "0", "")
		case 1:
			return pick("key", "seed") + blank + server() + " " + name() + blank + digits()
		case 2, 3:
			return "sign" + blank + server() + " " + name() + " " + pick(digits(), seedOf(1)) + blank + text()
		case 4, 5:
			return "event" + blank + text()
		case 6, 7:
			return "txn" + blank + pick(txn(), txn(), txn(), text())
		case 8:
			return "id" + blank + text()
		case 9:
			return "redact" + blank + pick(pick(ids...), "$", "")
		case 10:
			return "show" + pick("", "", " ", "  ", " x")
		}
		return pick("", "x", "key", "seed a.b", "sign a.b ed25519:1", "event", "txn", "id", "redact", " show", "version")
	}
}

func TestP50_2AnyLines(t *testing.T) {
	t.Parallel()
	rnd := rand.New(rand.NewSource(50))
	for v := 1; v <= 11; v++ {
		next := lines(t, rnd, v)
		for range 4 {
			d, p, all, told := desk.New(), newPlain(), "", ""
			first := []string{"version " + strconv.Itoa(v), "seed a.b ed25519:1 " + seedOf(1)}
			for i := range 25 {
				line := next()
				if i < 2 && rnd.Intn(5) > 0 {
					line = first[i]
				}
				want := p.do(line)
				says(t, d, line, want)
				all, told = all+line+"\n", told+want
			}
			if got := desk.Run(all); got != told {
				t.Errorf("%s: %s, not %s", shown(all), shown(got), shown(told))
			}
			r := d.Room()
			if r.Version() != p.room.Version() || !slices.Equal(r.IDs(), p.room.IDs()) {
				t.Errorf("%q, not %q", r.IDs(), p.room.IDs())
			}
			for _, id := range r.IDs() {
				a, _ := r.Event(id)
				b, _ := p.room.Event(id)
				if formOf(t, a) != formOf(t, b) {
					t.Errorf("%+v, not %+v", a, b)
				}
			}
		}
	}
}

func TestP50_3(t *testing.T) {
	rnd := rand.New(rand.NewSource(503))
	for v := 1; v <= 11; v += 2 {
		next := lines(t, rnd, v)
		text := "version " + strconv.Itoa(v) + "\nseed a.b ed25519:1 " + seedOf(1) + "\n"
		for range 12 {
			text += next() + "\n"
		}
		told := desk.Run(text)
		for i, c := range text {
			if c == '\n' {
				if begin := desk.Run(text[:i+1]); !strings.HasPrefix(told, begin) {
					t.Errorf("%s: %s, not %s", shown(text), shown(told), shown(begin))
				}
			}
		}
		// A last line that isn't ended is one, too; but more may end it in another way.
		if more, end := desk.Run(text+"show"), desk.Run(text+"show \nx"); !strings.HasPrefix(more, told+"room ") || end != more+wrong(api.ErrForm) || desk.Run(text+"showx") != told+wrong(api.ErrForm) {
			t.Errorf("%s: %s", shown(text), shown(more))
		}
	}
}

// The IDs of own versions may have what others can't.
func TestP50OwnIDs(t *testing.T) {
	for v := 1; v <= 2; v++ {
		d := deskOf(t, v)
		for i, id := range []string{`$"\:a.b`, "$-:a.b", "$$:a.b:80"} {
			m := signed(t, v, 1, hashed(t, with(bare(v, i), "event_id", id)))
			says(t, d, "id "+form(t, m), "id "+id+"\n")
			says(t, d, "event "+form(t, m), passed(id))
			says(t, d, "redact "+id, "redacted "+id+"\n")
		}
	}
}

func TestP50WhatIsSignedPasses(t *testing.T) {
	for v := 1; v <= 11; v++ {
		d := desk.New()
		says(t, d, "version "+strconv.Itoa(v), "version "+strconv.Itoa(v)+"\n")
		says(t, d, "seed a.b ed25519:k "+seedOf(4), "public "+publicOf(4)+"\n")
		m := with(hashed(t, bare(v, 1)), "signatures", fields{})
		line, ok := strings.CutPrefix(d.Do("sign a.b ed25519:k "+seedOf(4)+" "+form(t, m)), "signed ")
		if !ok {
			t.Fatal(line)
		}
		id := idOf(t, v, m)
		says(t, d, "event "+form(t, m), refused(id, api.ErrNone))
		says(t, d, "event "+strings.TrimSuffix(line, "\n"), passed(id))
		signature := read(t, line).L[slices.Index(read(t, line).K, "signatures")].L[0].L[0].S
		if b, e := base64.RawStdEncoding.DecodeString(signature); e != nil || !ed25519.Verify(key(4).Public().(ed25519.PublicKey), signing(t, v, m), b) {
			t.Error(signature)
		}
	}
}

// A nil desk, and one that New didn't make, do nothing; but nothing panics.
func TestP7NoDesk(t *testing.T) {
	for _, d := range []*desk.Desk{nil, {}} {
		for _, line := range []string{"", "show", "version 3", "version 12", "key a.b ed25519:1 " + publicOf(1), "seed a.b ed25519:1 " + seedOf(1), "sign a.b ed25519:1 " + seedOf(1) + " {}", "event {}", "txn {}", "id {}", "redact $a", "x"} {
			d.Do(line)
			d.Room()
		}
	}
}
