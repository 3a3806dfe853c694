package edkey_test

import (
	"crypto/ed25519"
	"crypto/sha512"
	"math/big"
	"math/rand"
	"slices"
	"strings"
	"testing"

	"sealring/api"
	"sealring/curve"
	"sealring/edkey"
	"sealring/mult"
	"sealring/octet"
	"sealring/pcode"
	"sealring/wide"
)

const seedBytes = 32

// seeds are some at the edges, and some between them.
func seeds() []string {
	l := []string{strings.Repeat("\x00", seedBytes), strings.Repeat("\xff", seedBytes), strings.Repeat("\x00", seedBytes-1) + "\x01", "\x01" + strings.Repeat("\x00", seedBytes-1), strings.Repeat("a", seedBytes), strings.Repeat("\u00e9", seedBytes/2)}
	r := rand.New(rand.NewSource(24))
	for range 60 {
		b := make([]byte, seedBytes)
		r.Read(b)
		l = append(l, string(b))
	}
	return l
}

// numberOf is the number of bytes, the lowest one first.
func numberOf(b []byte) *big.Int {
	b = slices.Clone(b)
	slices.Reverse(b)
	return new(big.Int).SetBytes(b)
}

// wideOf is a number word by word.
func wideOf(n *big.Int) wide.Num {
	var w wide.Num
	word := new(big.Int).SetUint64(1<<64 - 1)
	for i := range w {
		w[i] = new(big.Int).And(new(big.Int).Rsh(n, uint(64*i)), word).Uint64()
	}
	return w
}

// keyOf is a seed's key, by the library's means.
func keyOf(seed string) edkey.Key {
	hash := sha512.Sum512([]byte(seed))
	n := numberOf(hash[:32])
	for _, i := range []int{0, 1, 2, 255} {
		n.SetBit(n, i, 0)
	}
	n.SetBit(n, 254, 1)
	public := ed25519.NewKeyFromSeed([]byte(seed)).Public().(ed25519.PublicKey)
	return edkey.Key{Number: wideOf(n), Front: string(hash[32:]), Public: string(public)}
}

func TestP24_1Of(t *testing.T) {
	for _, seed := range seeds() {
		for range 2 { // a second time there is the same
			if k, e := edkey.Of(seed); k != keyOf(seed) || e != api.OK {
				t.Errorf("Of(%x): %x, %d, not %x", seed, k, e, keyOf(seed))
			}
		}
		if p, e := edkey.Public(seed); p != keyOf(seed).Public || e != api.OK {
			t.Errorf("Public(%x): %x, %d", seed, p, e)
		}
	}
}

// fixed are the bits that no hash has a say in.
var fixed = map[int]uint{0: 0, 1: 0, 2: 0, 254: 1, 255: 0}

func TestP24_1EachBitOfTheNumber(t *testing.T) {
	met := map[[2]int]bool{}
	for _, seed := range seeds() {
		hash := sha512.Sum512([]byte(seed))
		n := numberOf(hash[:32])
		k, _ := edkey.Of(seed)
		for i := range 256 {
			met[[2]int{i, int(n.Bit(i))}] = true
			want, ok := fixed[i]
			if !ok {
				want = n.Bit(i)
			}
			if k.Number.Bit(i) != want {
				t.Errorf("Of(%x): the bit %d is %d", seed, i, k.Number.Bit(i))
			}
		}
	}
	if len(met) != 512 {
		t.Error("some bit is the same in all hashes:", len(met))
	}
}

func TestP24_1PublicOfKnownSeeds(t *testing.T) {
	for seed, public := range map[string]string{
		"9d61b19deffd5a60ba844af492ec2cc44449c5697b326919703bac031cae7f60": "d75a980182b10ab7d54bfed3c964073a0ee172f3daa62325af021a68f707511a",
		"4ccd089b28ff96da9db6c346ec114e0f5b8a319f35aba624da8cf6ed4fb8a6fb": "3d4017c3e843895a92b70aa74d1b7ebc9c982ccf2ec4968cc0cd55f12af4660c",
		"c5aa8df43f9f837bedb7442f31dcb7b166d38535076f094b85ce3a2e0b4458f7": "fc51cd8e6218a1a38da47ed00230f0580816ed13ba3303ac5deb911548908025",
		"f5e5767cf153319517630f226876b86c8160cc583bc013744c6bf255f5cc0ee5": "278117fc144c72340f67d0f2316e8386ceffbf2b2428c9c51fef7c597f1d426e",
		"833fe62409237b9d62ec77587520911e9a759cec1d19755b7da901b96dca3d42": "ec172b93ad5e563bf4932c70e1245034c35467ef2efd4d64ebf819683467e2bf",
	} {
		s, _ := octet.Unhex(seed)
		if p, e := edkey.Public(s); octet.Hex(p) != public || e != api.OK {
			t.Errorf("Public(%s): %s, %d", seed, octet.Hex(p), e)
		}
		if k, e := edkey.Of(s); octet.Hex(k.Public) != public || e != api.OK {
			t.Errorf("Of(%s): %s, %d", seed, octet.Hex(k.Public), e)
		}
	}
}

func TestP24_1WhatIsNoSeed(t *testing.T) {
	wrong := []string{"9d61b19deffd5a60ba844af492ec2cc44449c5697b326919703bac031cae7f60", strings.Repeat("\u00e9", seedBytes), strings.Repeat("a", 1<<20), strings.Repeat("a", 256+seedBytes)}
	for many := range 200 {
		if many != seedBytes {
			wrong = append(wrong, strings.Repeat("\x00", many), strings.Repeat("s", many))
		}
	}
	for _, s := range wrong {
		if k, e := edkey.Of(s); k != (edkey.Key{}) || e != api.ErrArg {
			t.Errorf("Of of %d bytes: %x, %d", len(s), k, e)
		}
		if p, e := edkey.Public(s); p != "" || e != api.ErrArg {
			t.Errorf("Public of %d bytes: %x, %d", len(s), p, e)
		}
	}
}

func TestP24_2PublicIsAPointOfTheBasesOrder(t *testing.T) {
	for _, seed := range seeds() {
		public, _ := edkey.Public(seed)
		p, e := pcode.Decode(public)
		if e != api.OK || !mult.Main(p) || curve.Same(p, curve.Zero()) {
			t.Errorf("%x: %x, %d", seed, public, e)
		}
		if k, _ := edkey.Of(seed); !curve.Same(p, mult.Base(k.Number)) {
			t.Errorf("%x: another point than the base, Number times", seed)
		}
	}
}
