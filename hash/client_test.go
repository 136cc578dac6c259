package hash_test

import (
	"math"
	"testing"

	"stanchion/addr"
	"stanchion/api"
	"stanchion/hash"
)

// toldClients are the numbers of prefixes, and of such as are none, reckoned apart from the program, of seeds of 0, 1, 2^63 and 2^64 - 1.
var toldClients = []struct {
	p    api.Prefix
	want [4]uint64
}{
	{api.Prefix{Addr: four(10, 0, 0, 0), Bits: 8}, [4]uint64{0x9c31405b19e32369, 0xbd912b15f887ea8f, 0x1786a38e9c38d283, 0x9b5201d14e58d405}},
	{api.Prefix{}, [4]uint64{0x9a5ddf2eb4587310, 0xcf1444fbce9a23c2, 0x1f087bfbb6f2a17a, 0x26305de573020682}},
	{api.Prefix{Addr: fourFull, Bits: 32}, [4]uint64{0x9e4b2e784a551327, 0x639b31302ca29e94, 0x22f5cb44d40a61b9, 0xc72497d8c69777ff}},
	{api.Prefix{Addr: fourA, Bits: 32}, [4]uint64{0x1957d42fa4195858, 0x2109b841aacddef8, 0x9e0270fc27b38a31, 0x34b3eb6a0c447b68}},
	{api.Prefix{Addr: fourA, Bits: 8}, [4]uint64{0x4f22c96c943b26e1, 0xd5da68171c45c3ab, 0xd3cd66391a4cf14b, 0xec20e2ff7520f43a}},
	{api.Prefix{Addr: sixZero}, [4]uint64{0x0db1146c1aee7a56, 0x0554c044b28ec101, 0x925bb138951b28fc, 0xed7cb1ea6eca99bc}},
	{api.Prefix{Addr: six(0x20, 1, 0x0d, 0xb8), Bits: 32}, [4]uint64{0xc7f11d7da2d937be, 0xd3faca9be719d673, 0x4c9bba4aa76c6425, 0x29fc97266d37d122}},
	{api.Prefix{Addr: sixA, Bits: 128}, [4]uint64{0xc9cfe74be1d6c0c0, 0x02557596e12e7df8, 0x4e7a8418620c7169, 0x10c2b05744669657}},
	{api.Prefix{Addr: sixFull, Bits: 128}, [4]uint64{0xda2a6c742ac66e2d, 0x929df5fafdc99c14, 0x557fcfa7ad6cbfc4, 0xc525f723a813269c}},
	{api.Prefix{Addr: fourA, Bits: -1}, [4]uint64{0x5439d027f6336ac1, 0xb3818355d222857b, 0xd8e46cf4f05db4a8, 0x1470ff3b90716fdd}},
	{api.Prefix{Addr: fourA, Bits: 256}, [4]uint64{0xe433cf46c648c4cc, 0x8d2b8d744d3c9b02, 0x68de6c13403e1566, 0xe847e9d1334ca115}},
	{api.Prefix{Addr: sixA, Bits: 129}, [4]uint64{0xfdff5c9f8c6e88ed, 0x318441665bea018f, 0x82a9f96cf3c5da14, 0x0270017df6faab39}},
	{api.Prefix{Addr: sixA, Bits: -256}, [4]uint64{0x7ffa33c54079e707, 0x7f2bfb9e2ef6b67c, 0x04a4d0923dd696ac, 0xb0f899fbc2270501}},
	{api.Prefix{Addr: fourA, Bits: 33}, [4]uint64{0xfbdd2c7257319d4d, 0x64c28f0c53429ce5, 0x8087c93eaa9cefeb, 0x24a333ae9ec6bdcd}},
}

// P18.2: prefixes, and such as are none, with seeds at the edges.
func TestClient(t *testing.T) {
	for _, x := range toldClients {
		for i, seed := range seeds()[:4] {
			if got := hash.Client(seed, x.p); got != x.want[i] {
				t.Errorf("Client(%#x, %v) is %#x, not %#x", seed, x.p, got, x.want[i])
			}
			if slow := slowClient(seed, x.p); slow != x.want[i] {
				t.Errorf("seed %#x, %v: %#x by the document's words, not %#x", seed, x.p, slow, x.want[i])
			}
		}
	}
}

// prefixes are those of all addresses by each number of bits.
func prefixes() []api.Prefix {
	var l []api.Prefix
	for _, a := range addresses() {
		for bits := 0; ; bits++ {
			p, ok := addr.Mask(a, bits)
			if !ok {
				break
			}
			l = append(l, p)
		}
	}
	return l
}

// P18.2: prefixes of both kinds by each number of bits: Sum of the bytes of the address, and of the bits.
func TestEachNumberOfBits(t *testing.T) {
	l := prefixes()
	if want := 4*33 + 4*129; len(l) != want {
		t.Fatalf("%d prefixes, not %d", len(l), want)
	}
	for _, seed := range seeds() {
		for _, p := range l {
			wantClient(t, seed, p)
			wantSum(t, "the bytes of a prefix", hash.Client(seed, p), seed, slowBytes(p.Addr), []byte{byte(p.Bits)})
		}
	}
}

// P18.2: each of these prefixes has a number of its own; 0.0.0.0/0 is that of several addresses, as 0:0:0:0:0:0:0:0/0 is.
func TestPrefixesApart(t *testing.T) {
	for _, seed := range seeds() {
		apart, seen := map[api.Prefix]bool{}, map[uint64]bool{}
		for _, p := range prefixes() {
			apart[p] = true
			seen[hash.Client(seed, p)] = true
		}
		if len(seen) != len(apart) {
			t.Errorf("seed %#x: %d numbers of %d prefixes", seed, len(seen), len(apart))
		}
	}
}

// P18.2: bits below 0, or too many, are one byte, the lowest one.
func TestBitsOfNoPrefix(t *testing.T) {
	for _, seed := range seeds() {
		for _, a := range []api.Addr{fourA, sixA} {
			for bits := -600; bits <= 600; bits++ {
				p := api.Prefix{Addr: a, Bits: bits}
				wantClient(t, seed, p)
				low := api.Prefix{Addr: a, Bits: bits & 255}
				if hash.Client(seed, p) != hash.Client(seed, low) {
					t.Errorf("seed %#x: %v is not as %v", seed, p, low)
				}
			}
			for _, bits := range []int{math.MinInt, math.MinInt + 1, math.MinInt32, -1 << 40, -65537, 65535, 65536, math.MaxInt32, 1 << 40, 1<<56 + 3, math.MaxInt - 1, math.MaxInt} {
				wantClient(t, seed, api.Prefix{Addr: a, Bits: bits})
			}
		}
	}
}

// P18.2: each number that a byte holds makes a number of its own, those that no prefix has, too.
func TestBitsApart(t *testing.T) {
	for _, seed := range seeds() {
		for _, a := range addresses() {
			seen := map[uint64]bool{}
			for bits := range 256 {
				seen[hash.Client(seed, api.Prefix{Addr: a, Bits: bits})] = true
			}
			if len(seen) != 256 {
				t.Errorf("seed %#x, %v: %d numbers of 256 of bits", seed, a, len(seen))
			}
		}
	}
}

// P18.2: bits of the address that lie behind the prefix matter as those within do: the address counts as it is.
func TestBitsBehindThePrefix(t *testing.T) {
	for _, seed := range seeds() {
		for _, p := range []api.Prefix{{Addr: four(10, 0, 0, 0), Bits: 8}, {Addr: fourA, Bits: 0}, {Addr: fourA, Bits: 31}, {Addr: six(0x20, 1), Bits: 16}, {Addr: sixA, Bits: 0}, {Addr: sixB, Bits: 127}} {
			want := hash.Client(seed, p)
			for bit := range 8 * len(slowBytes(p.Addr)) {
				other := p
				other.Addr.B[15-bit/8] ^= 1 << (bit % 8)
				wantClient(t, seed, other)
				if hash.Client(seed, other) == want {
					t.Errorf("seed %#x: %v and %v have the same number", seed, p, other)
				}
			}
		}
	}
}

// P18.2: of an address of IPv4 that is not good its last four bytes count; of IPv6 all, though the first twelve be 0.
func TestClientNotGood(t *testing.T) {
	for _, seed := range seeds() {
		for _, bits := range []int{0, 8, 24, 32, 96, 128} {
			for _, a := range []api.Addr{fourA, fourZero, fourFull} {
				want := hash.Client(seed, api.Prefix{Addr: a, Bits: bits})
				for _, bad := range bads(a) {
					p := api.Prefix{Addr: bad, Bits: bits}
					wantClient(t, seed, p)
					if hash.Client(seed, p) != want {
						t.Errorf("seed %#x: %v is not as %v", seed, p, a)
					}
				}
				a.Six = true
				p := api.Prefix{Addr: a, Bits: bits}
				wantClient(t, seed, p)
				if hash.Client(seed, p) == want {
					t.Errorf("seed %#x: %v has the number of one of IPv4", seed, p)
				}
			}
		}
	}
}

// P18.2: drawn prefixes, and such as are none, with drawn seeds.
func TestDrawnClients(t *testing.T) {
	r := draw(41)
	for range 20000 {
		p := api.Prefix{Addr: address(r), Bits: r.IntN(300) - 20}
		if r.IntN(4) == 0 {
			p.Bits = int(r.Uint64())
		}
		wantClient(t, r.Uint64(), p)
	}
}
