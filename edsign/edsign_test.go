package edsign_test

import (
	"crypto/ed25519"
	"crypto/sha512"
	"math/big"
	"math/rand"
	"slices"
	"strings"
	"testing"

	"sealring/api"
	"sealring/curve"
	"sealring/edkey"
	"sealring/edsign"
	"sealring/mult"
	"sealring/octet"
	"sealring/pcode"
	"sealring/wide"
)

const (
	seedBytes   = 32
	publicBytes = 32
	signBytes   = 64
)

// order is the base's.
var order, _ = new(big.Int).SetString("7237005577332262213973186563042994240857116359379907606001950938285454250989", 10)

func unhex(t *testing.T, s string) string {
	t.Helper()
	b, e := octet.Unhex(s)
	if e != api.OK {
		t.Fatalf("%s: %d", s, e)
	}
	return b
}

// anyBytes are some, as many as there should be.
func anyBytes(r *rand.Rand, many int) string {
	b := make([]byte, many)
	r.Read(b)
	return string(b)
}

// bytesOf are a number's 32, the lowest one first.
func bytesOf(n *big.Int) string {
	b := n.FillBytes(make([]byte, 32))
	slices.Reverse(b)
	return string(b)
}

// numberOf is the number of bytes, the lowest one first.
func numberOf(s string) *big.Int {
	b := []byte(s)
	slices.Reverse(b)
	return new(big.Int).SetBytes(b)
}

// wideOf is a number word by word.
func wideOf(t *testing.T, n *big.Int) wide.Num {
	t.Helper()
	w, e := wide.Of(bytesOf(n))
	if e != api.OK {
		t.Fatal(n, e)
	}
	return w
}

// hashed is the rest by the base's order of a hash's number, by the library's means.
func hashed(l ...string) *big.Int {
	h := sha512.Sum512([]byte(strings.Join(l, "")))
	n := numberOf(string(h[:]))
	return n.Mod(n, order)
}

// libraryVerifies: does the library let that pass? It isn't asked of what it may not be asked of.
func libraryVerifies(public, signature, message string) bool {
	return ed25519.Verify(ed25519.PublicKey(public), []byte(message), []byte(signature))
}

// keyOf is a seed's public key, by the library's means.
func keyOf(seed string) string {
	return string(ed25519.NewKeyFromSeed([]byte(seed)).Public().(ed25519.PublicKey))
}

// signed is what a seed signs, by the library's means.
func signed(seed, message string) string {
	return string(ed25519.Sign(ed25519.NewKeyFromSeed([]byte(seed)), []byte(message)))
}

// signs asks for the signature, and whether it passes.
func signs(t *testing.T, seed, want string, message ...string) {
	t.Helper()
	if s, e := edsign.Sign(seed, message...); s != want || e != api.OK {
		t.Errorf("Sign(%x, %q): %x, %d, not %x", seed, message, s, e, want)
	}
	verifies(t, keyOf(seed), want, api.OK, message...)
}

func verifies(t *testing.T, public, signature string, want api.Errno, message ...string) {
	t.Helper()
	if e := edsign.Verify(public, signature, message...); e != want {
		t.Errorf("Verify(%x, %x, %.99q): %d, not %d", public, signature, message, e, want)
	}
}

func TestP25_1KnownSignatures(t *testing.T) {
	for _, l := range [][3]string{
		{"9d61b19deffd5a60ba844af492ec2cc44449c5697b326919703bac031cae7f60", "", "e5564300c360ac729086e2cc806e828a84877f1eb8e5d974d873e065224901555fb8821590a33bacc61e39701cf9b46bd25bf5f0595bbe24655141438e7a100b"},
		{"4ccd089b28ff96da9db6c346ec114e0f5b8a319f35aba624da8cf6ed4fb8a6fb", "72", "92a009a9f0d4cab8720e820b5f642540a2b27b5416503f8fb3762223ebdb69da085ac1e43e15996e458f3613d0f11d8c387b2eaeb4302aeeb00d291612bb0c00"},
		{"c5aa8df43f9f837bedb7442f31dcb7b166d38535076f094b85ce3a2e0b4458f7", "af82", "6291d657deec24024827e69c3abe01a30ce548a284743a445e3680d7db5ac3ac18ff9b538d16f290ae67f760984dc6594a7c15e9716ed28dc027beceea1ec40a"},
		{"833fe62409237b9d62ec77587520911e9a759cec1d19755b7da901b96dca3d42", "ddaf35a193617abacc417349ae20413112e6fa4e89a97ea20a9eeee64b55d39a2192992a274fc1a836ba3c23a3feebbd454d4423643ce80e2a9ac94fa54ca49f", "dc2a4459e7369633a52b1bf277839a00201009a3efbf3ecb69bea2186c26b58909351fc9ac90b3ecfdfbc7c66431e0303dca179c138ac17ad9bef1177331a704"},
	} {
		signs(t, unhex(t, l[0]), unhex(t, l[2]), unhex(t, l[1]))
	}
	signs(t, unhex(t, "9d61b19deffd5a60ba844af492ec2cc44449c5697b326919703bac031cae7f60"), unhex(t, "e5564300c360ac729086e2cc806e828a84877f1eb8e5d974d873e065224901555fb8821590a33bacc61e39701cf9b46bd25bf5f0595bbe24655141438e7a100b"))
}

func TestP25_1MessagesOfAnyLength(t *testing.T) {
	r := rand.New(rand.NewSource(25))
	many := []int{0, 1, 2, 31, 32, 33, 63, 64, 65, 79, 80, 81, 95, 96, 97, 111, 112, 113, 127, 128, 129, 175, 176, 177, 192, 255, 256, 257, 1000, 4096, 70000}
	for _, n := range many {
		seed, message := anyBytes(r, seedBytes), anyBytes(r, n)
		signs(t, seed, signed(seed, message), message)
	}
}

func TestP25_1Seeds(t *testing.T) {
	r := rand.New(rand.NewSource(251))
	seeds := []string{strings.Repeat("\x00", seedBytes), strings.Repeat("\xff", seedBytes), strings.Repeat("\x00", seedBytes-1) + "\x01", "\x01" + strings.Repeat("\x00", seedBytes-1), strings.Repeat("\u00e9", seedBytes/2)}
	for range 40 {
		seeds = append(seeds, anyBytes(r, seedBytes))
	}
	for _, seed := range seeds {
		for _, message := range []string{"", "\x00", "m", "\xff\xfe", "{\"a\":1}", "\u00e9", seed} {
			want := signed(seed, message)
			for range 2 { // a second time there is the same
				if s, e := edsign.Sign(seed, message); s != want || e != api.OK {
					t.Errorf("Sign(%x, %q): %x, %d, not %x", seed, message, s, e, want)
				}
			}
		}
	}
}

// The words of P25.1, done one by one.
func TestP25_1StepByStep(t *testing.T) {
	r := rand.New(rand.NewSource(252))
	for range 20 {
		seed, message := anyBytes(r, seedBytes), anyBytes(r, r.Intn(300))
		key, _ := edkey.Of(seed)
		once := hashed(key.Front, message)
		point := pcode.Encode(mult.Base(wideOf(t, once)))
		sum := hashed(point, key.Public, message)
		sum.Mul(sum, numberOf(key.Number.Bytes())).Add(sum, once).Mod(sum, order)
		signs(t, seed, point+bytesOf(sum), message)
	}
}

func TestP25_1WhatIsNoSeed(t *testing.T) {
	wrong := []string{strings.Repeat("\u00e9", seedBytes), strings.Repeat("a", 256+seedBytes), strings.Repeat("a", 1<<20), "9d61b19deffd5a60ba844af492ec2cc44449c5697b326919703bac031cae7f60"}
	for many := range 130 {
		if many != seedBytes {
			wrong = append(wrong, strings.Repeat("s", many))
		}
	}
	for _, seed := range wrong {
		for _, message := range [][]string{nil, {}, {""}, {"m"}, {"a", "b", "c"}, {seed}} {
			if s, e := edsign.Sign(seed, message...); s != "" || e != api.ErrArg {
				t.Errorf("Sign of %d bytes: %x, %d", len(seed), s, e)
			}
		}
	}
}

func TestP25_2EachBitTellsOn(t *testing.T) {
	seed := strings.Repeat("s", seedBytes)
	public, message := keyOf(seed), "a message of some bytes"
	signature := signed(seed, message)
	flipped := func(s string, bit int) string {
		b := []byte(s)
		b[bit/8] ^= 1 << (bit % 8)
		return string(b)
	}
	refused := map[api.Errno]int{}
	for bit := range 8 * signBytes {
		wrong := flipped(signature, bit)
		want := api.ErrSign
		if bit >= 8*signBytes/2 && numberOf(wrong[signBytes/2:]).Cmp(order) >= 0 {
			want = api.ErrScalar
		}
		refused[want]++
		verifies(t, public, wrong, want, message)
	}
	for bit := range 8 * publicBytes {
		wrong := flipped(public, bit)
		want := api.ErrSign
		if _, e := pcode.Decode(wrong); e != api.OK {
			want = e
		}
		refused[want]++
		verifies(t, wrong, signature, want, message)
	}
	for bit := range 8 * len(message) {
		verifies(t, public, signature, api.ErrSign, flipped(message, bit))
	}
	if len(refused) != 3 || refused[api.ErrScalar] == 0 || refused[api.ErrPoint] == 0 {
		t.Error("too few errors were met:", refused)
	}
}

func TestP25_2OtherMessages(t *testing.T) {
	seed := strings.Repeat("t", seedBytes)
	public, signature := keyOf(seed), signed(seed, "abc")
	verifies(t, public, signature, api.OK, "abc")
	for _, l := range [][]string{nil, {""}, {"ab"}, {"abcd"}, {"abc\x00"}, {"\x00abc"}, {"acb"}, {"ABC"}, {"abc", "abc"}, {"c", "ab"}, {"b", "a", "c"}, {"a", "c", "b"}, {" ", "abc"}} {
		verifies(t, public, signature, api.ErrSign, l...)
	}
	for _, other := range []string{strings.Repeat("u", seedBytes), strings.Repeat("\x00", seedBytes)} {
		verifies(t, keyOf(other), signature, api.ErrSign, "abc")
		verifies(t, public, signed(other, "abc"), api.ErrSign, "abc")
	}
	verifies(t, public, signature[:32]+signed(seed, "abd")[32:], api.ErrSign, "abc")
	verifies(t, public, signed(seed, "abd")[:32]+signature[32:], api.ErrSign, "abc")
	verifies(t, public, signature[32:]+signature[:32], api.ErrScalar, "abc")
}

func TestP25_2HowManyBytes(t *testing.T) {
	seed := strings.Repeat("l", seedBytes)
	public, signature := keyOf(seed), signed(seed, "")
	verifies(t, public, signature, api.OK)
	const most = 200
	long := strings.Repeat("\x00", most)
	for many := range most {
		if many != publicBytes {
			verifies(t, long[:many], signature, api.ErrArg)
			verifies(t, (public + long)[:many], signature, api.ErrArg)
		}
		if many != signBytes {
			verifies(t, public, long[:many], api.ErrArg)
			verifies(t, public, (signature + long)[:many], api.ErrArg)
		}
		if many != publicBytes && many != signBytes {
			verifies(t, long[:many], long[:many], api.ErrArg, "m")
		}
	}
	verifies(t, signature, public, api.ErrArg)
	verifies(t, octet.Hex(public), signature, api.ErrArg)
	verifies(t, public, octet.Hex(signature), api.ErrArg)
	verifies(t, public, signature[1:], api.ErrArg, signature[:1])
	verifies(t, public[:31], signature, api.ErrArg, public[31:])
}

// noPublics are 32 bytes that no point has, by pcode's error.
func noPublics(t *testing.T) map[string]api.Errno {
	t.Helper()
	l := map[string]api.Errno{
		strings.Repeat("\xff", publicBytes):                     api.ErrRange, // y is not below the prime
		"\xed" + strings.Repeat("\xff", publicBytes-2) + "\x7f": api.ErrRange,
		"\xee" + strings.Repeat("\xff", publicBytes-2) + "\x7f": api.ErrRange, // 1, and the prime
		"\xee" + strings.Repeat("\xff", publicBytes-1):          api.ErrRange,
		"\x02" + strings.Repeat("\x00", publicBytes-1):          api.ErrPoint, // no x
		"\x01" + strings.Repeat("\x00", publicBytes-2) + "\x80": api.ErrPoint, // x is 0, and should be odd
		"\xec" + strings.Repeat("\xff", publicBytes-1):          api.ErrPoint,
		"\x07" + strings.Repeat("\x00", publicBytes-2) + "\x80": api.ErrPoint,
	}
	for s, want := range l {
		if _, e := pcode.Decode(s); e != want {
			t.Fatalf("%x: %d", s, e)
		}
	}
	return l
}

// highs are 32 bytes that are no number below the base's order.
func highs() []string {
	l := []string{strings.Repeat("\xff", 32), strings.Repeat("\x00", 31) + "\x80", strings.Repeat("\x00", 31) + "\x20", "\x00" + bytesOf(order)[1:31] + "\x11"}
	for _, more := range []int64{0, 1, 2, 255, 256, 1 << 62} {
		l = append(l, bytesOf(new(big.Int).Add(order, big.NewInt(more))))
	}
	return l
}

// Of two things that are wrong the first one is told.
func TestP25_2WhatIsToldFirst(t *testing.T) {
	seed := strings.Repeat("o", seedBytes)
	public, signature := keyOf(seed), signed(seed, "m")
	verifies(t, public, signature, api.OK, "m")
	for bad, want := range noPublics(t) {
		for _, s := range []string{signature, signed(seed, "n"), strings.Repeat("\x00", signBytes), strings.Repeat("\xff", signBytes)} {
			verifies(t, bad, s, want, "m")
		}
		for _, high := range highs() {
			verifies(t, bad, signature[:32]+high, want, "m")
			verifies(t, bad, bad+high, want, "m")
		}
		verifies(t, bad, bad+signature[32:], want, "m")
		verifies(t, bad, "", api.ErrArg, "m")
		verifies(t, bad, signature+"\x00", api.ErrArg, "m")
		verifies(t, bad+"\x00", signature, api.ErrArg, "m")
		verifies(t, bad[1:], signature, api.ErrArg, "m")
	}
	for _, high := range highs() {
		for _, first := range []string{signature[:32], public, strings.Repeat("\xff", 32), strings.Repeat("\x00", 32)} {
			verifies(t, public, first+high, api.ErrScalar, "m")
			verifies(t, public, first+high, api.ErrScalar, "n")
			verifies(t, public[:31], first+high, api.ErrArg, "m")
			verifies(t, public, first+high+"\x00", api.ErrArg, "m")
		}
	}
}

// A signature's number is taken below the base's order alone: the same one, and the order more, is another text of the same rest.
func TestP25_2NumberBelowTheOrder(t *testing.T) {
	seed := strings.Repeat("n", seedBytes)
	public, signature := keyOf(seed), signed(seed, "m")
	n := numberOf(signature[32:])
	for range 15 {
		n.Add(n, order)
		if n.BitLen() <= 256 {
			verifies(t, public, signature[:32]+bytesOf(n), api.ErrScalar, "m")
		}
	}
	last := bytesOf(new(big.Int).Sub(order, big.NewInt(1)))
	verifies(t, public, signature[:32]+last, api.ErrSign, "m")
	verifies(t, public, signature[:32]+strings.Repeat("\x00", 32), api.ErrSign, "m")
}

// lows are the points that come to Zero when they are taken 8 times.
func lows(t *testing.T) []curve.Point {
	t.Helper()
	p, e := pcode.Decode(unhex(t, "26e8958fc2b227b045c3f489f2ef98f0d5dfac05d3c63339b13802886d53fc05"))
	if e != api.OK {
		t.Fatal(e)
	}
	var l []curve.Point
	for i := range 8 {
		l = append(l, mult.Times(wide.Small(uint64(i)), p))
	}
	for i := range l {
		for j := range i {
			if curve.Same(l[i], l[j]) {
				t.Fatal("the point's order is less than 8:", i, j)
			}
		}
	}
	return l
}

// A point of low order is a public key like others: what passes is what the equation says, times 1, not times 8.
func TestP25_2PointsOfLowOrder(t *testing.T) {
	passed, refused := 0, 0
	s := big.NewInt(0x123456789abcdef)
	for _, p := range lows(t) {
		public := pcode.Encode(p)
		for _, q := range lows(t) {
			point := pcode.Encode(curve.Add(mult.Base(wideOf(t, s)), q))
			signature := point + bytesOf(s)
			for _, message := range []string{"", "a", "b", "c", "d"} {
				times := wideOf(t, hashed(point, public, message))
				want := api.ErrSign
				if curve.Same(curve.Add(q, mult.Times(times, p)), curve.Zero()) {
					want = api.OK
					passed++
				} else {
					refused++
				}
				if libraryVerifies(public, signature, message) != (want == api.OK) {
					t.Errorf("the library answers otherwise of %x, %x, %q", public, signature, message)
				}
				verifies(t, public, signature, want, message)
			}
		}
	}
	if passed < 10 || refused < 100 {
		t.Error(passed, refused)
	}
}

// The point of the public key may be one of no key: a key's, and one of low order more.
func TestP25_2PointsOfMixedOrder(t *testing.T) {
	r := rand.New(rand.NewSource(253))
	met := map[bool]int{}
	for _, low := range lows(t) {
		seed := anyBytes(r, seedBytes)
		key, _ := edkey.Of(seed)
		number := numberOf(key.Number.Bytes())
		public := pcode.Encode(curve.Add(mult.Base(key.Number), low))
		for _, q := range lows(t) {
			once := hashed(seed, "once")
			point := pcode.Encode(curve.Add(mult.Base(wideOf(t, once)), q))
			for _, message := range []string{"m", "n"} {
				times := hashed(point, public, message)
				sum := new(big.Int).Mul(times, number)
				signature := point + bytesOf(sum.Add(sum, once).Mod(sum, order))
				want := api.ErrSign
				if curve.Same(curve.Add(q, mult.Times(wideOf(t, times), low)), curve.Zero()) {
					want = api.OK
				}
				if libraryVerifies(public, signature, message) != (want == api.OK) {
					t.Errorf("the library answers otherwise of %x, %x, %q", public, signature, message)
				}
				met[want == api.OK]++
				verifies(t, public, signature, want, message)
			}
		}
	}
	if met[true] < 5 || met[false] < 50 {
		t.Error(met)
	}
}

// The first 32 bytes are compared as they stand: those that no point has are another text of a point.
func TestP25_2FirstBytesAsTheyStand(t *testing.T) {
	zero := pcode.Encode(curve.Zero())
	none := strings.Repeat("\x00", 32)
	for _, message := range []string{"", "a", "b", "c"} {
		verifies(t, zero, zero+none, api.OK, message)
		for _, first := range []string{
			"\xee" + strings.Repeat("\xff", 30) + "\x7f", // 1, and the prime
			"\x01" + strings.Repeat("\x00", 30) + "\x80", // 1, with the highest bit
			"\xee" + strings.Repeat("\xff", 31),
			none,
		} {
			verifies(t, zero, first+none, api.ErrSign, message)
		}
	}
}

func TestP25_2Messages(t *testing.T) {
	r := rand.New(rand.NewSource(254))
	for range 60 {
		seed, message := anyBytes(r, seedBytes), anyBytes(r, r.Intn(400))
		public, signature := keyOf(seed), []byte(signed(seed, message))
		if r.Intn(2) == 0 {
			signature[r.Intn(32)] ^= 1 << r.Intn(8)
		}
		want := api.ErrSign
		if libraryVerifies(public, string(signature), message) {
			want = api.OK
		}
		verifies(t, public, string(signature), want, message)
	}
}

// cut is a message in parts, some of them empty ones.
func cut(r *rand.Rand, message string) []string {
	var l []string
	for message != "" {
		n := r.Intn(min(len(message), 150) + 1)
		l, message = append(l, message[:n]), message[n:]
	}
	return append(l, "")
}

func TestP25_3Parts(t *testing.T) {
	r := rand.New(rand.NewSource(255))
	seed := anyBytes(r, seedBytes)
	public := keyOf(seed)
	for range 40 {
		message := anyBytes(r, r.Intn(500))
		want := signed(seed, message)
		l := cut(r, message)
		if s, e := edsign.Sign(seed, l...); s != want || e != api.OK {
			t.Errorf("%q: %x, %d, not %x", l, s, e, want)
		}
		verifies(t, public, want, api.OK, cut(r, message)...)
		verifies(t, public, want, api.ErrSign, append(cut(r, message), "\x00")...)
	}
	for _, l := range [][]string{nil, {}, {""}, {"", "", ""}} {
		signs(t, seed, signed(seed, ""), l...)
	}
	for _, l := range [][]string{{"abc"}, {"a", "bc"}, {"ab", "c"}, {"a", "b", "c"}, {"", "abc", ""}} {
		signs(t, seed, signed(seed, "abc"), l...)
	}
}

func TestP25_3WhatIsSignedIsVerified(t *testing.T) {
	r := rand.New(rand.NewSource(256))
	for range 40 {
		seed, message := anyBytes(r, seedBytes), anyBytes(r, r.Intn(200))
		s, e := edsign.Sign(seed, message)
		public, f := edkey.Public(seed)
		if e != api.OK || f != api.OK || len(s) != signBytes || !libraryVerifies(public, s, message) {
			t.Errorf("%x, %x: %x, %d, %d", seed, message, s, e, f)
		}
		verifies(t, public, s, api.OK, message)
	}
}

func TestP25WhatIsHandedInIsNotChanged(t *testing.T) {
	seed := strings.Repeat("w", seedBytes)
	l := []string{"a", "b", "spare", "more", "yet more"}
	s, _ := edsign.Sign(seed, l[:2]...)
	verifies(t, keyOf(seed), s, api.OK, l[:2]...)
	verifies(t, keyOf(seed), strings.Repeat("\x00", signBytes), api.ErrSign, l[:2]...)
	if !slices.Equal(l, []string{"a", "b", "spare", "more", "yet more"}) {
		t.Errorf("%q", l)
	}
}
