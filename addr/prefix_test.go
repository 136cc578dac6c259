package addr_test

import (
	"math"
	"net/netip"
	"testing"

	"stanchion/addr"
	"stanchion/api"
)

// strange are numbers of bits that no address has, some of which are others modulo powers of two.
var strange = []int{
	math.MinInt, math.MinInt + 8, math.MinInt32, -1 << 32, -1<<32 + 8, -256, -248, -129, -128, -127, -97, -96, -33, -32, -31, -8, -7, -2, -1,
	129, 130, 135, 136, 160, 224, 255, 256, 257, 264, 1 << 16, 1<<16 + 8, math.MaxInt32, 1 << 32, 1<<32 + 8, 1<<61 + 1, math.MaxInt - 7, math.MaxInt,
}

// P12.2: some that are told by hand.
func TestMask(t *testing.T) {
	for _, x := range []struct {
		a    api.Addr
		bits int
		want api.Addr
	}{
		{four(10, 0, 0, 255), 8, four(10, 0, 0, 0)},
		{four(255, 255, 255, 255), 0, four(0, 0, 0, 0)},
		{four(255, 255, 255, 255), 1, four(128, 0, 0, 0)},
		{four(255, 255, 255, 255), 7, four(254, 0, 0, 0)},
		{four(255, 255, 255, 255), 8, four(255, 0, 0, 0)},
		{four(255, 255, 255, 255), 9, four(255, 128, 0, 0)},
		{four(255, 255, 255, 255), 20, four(255, 255, 240, 0)},
		{four(255, 255, 255, 255), 31, four(255, 255, 255, 254)},
		{four(255, 255, 255, 255), 32, four(255, 255, 255, 255)},
		{four(1, 2, 3, 4), 31, four(1, 2, 3, 4)},
		{four(1, 2, 3, 4), 30, four(1, 2, 3, 4)},
		{four(1, 2, 3, 4), 29, four(1, 2, 3, 0)},
		{four(170, 170, 170, 170), 12, four(170, 160, 0, 0)},
		{six("ffffffffffffffffffffffffffffffff"), 0, six("00000000000000000000000000000000")},
		{six("ffffffffffffffffffffffffffffffff"), 1, six("80000000000000000000000000000000")},
		{six("ffffffffffffffffffffffffffffffff"), 33, six("ffffffff800000000000000000000000")},
		{six("ffffffffffffffffffffffffffffffff"), 96, six("ffffffffffffffffffffffff00000000")},
		{six("ffffffffffffffffffffffffffffffff"), 127, six("fffffffffffffffffffffffffffffffe")},
		{six("ffffffffffffffffffffffffffffffff"), 128, six("ffffffffffffffffffffffffffffffff")},
		{six("20010db8123456789abcdef012345678"), 44, six("20010db8123000000000000000000000")},
		{likeFour(four(255, 255, 255, 255)), 8, six("00000000000000000000000000000000")},
	} {
		p, ok := addr.Mask(x.a, x.bits)
		if p != (api.Prefix{Addr: x.want, Bits: x.bits}) || !ok {
			t.Errorf("Mask(%v, %d) is %v, %v", x.a, x.bits, p, ok)
		}
	}
}

// P12.2: of both kinds, by each number of bits from below 0 to above the most; what is not good has no prefix.
func TestMaskEachBits(t *testing.T) {
	for _, a := range append(goods(21, 60), bads(22, 20)...) {
		for bits := -140; bits <= 300; bits++ {
			wantMask(t, a, bits)
		}
		for _, bits := range strange {
			if p, ok := addr.Mask(a, bits); p != (api.Prefix{}) || ok {
				t.Errorf("Mask(%v, %d) is %v, %v", a, bits, p, ok)
			}
		}
	}
}

// P12.2: 33 bits are none of IPv4 but are of IPv6; of what is not good there are none, not even 0.
func TestMaskBounds(t *testing.T) {
	for _, x := range []struct {
		a    api.Addr
		bits int
		want bool
	}{
		{four(1, 2, 3, 4), 0, true}, {four(1, 2, 3, 4), 32, true}, {four(1, 2, 3, 4), -1, false}, {four(1, 2, 3, 4), 33, false}, {four(1, 2, 3, 4), 128, false},
		{api.Addr{}, 0, true}, {api.Addr{}, 32, true}, {api.Addr{}, -1, false}, {api.Addr{}, 33, false}, {api.Addr{}, 128, false},
		{api.Addr{Six: true}, 0, true}, {api.Addr{Six: true}, 33, true}, {api.Addr{Six: true}, 128, true}, {api.Addr{Six: true}, -1, false}, {api.Addr{Six: true}, 129, false},
		{api.Addr{B: [16]byte{1}}, 0, false}, {api.Addr{B: [16]byte{11: 1}}, 0, false}, {api.Addr{B: [16]byte{11: 1}}, 32, false}, {api.Addr{B: [16]byte{11: 1}}, 128, false},
	} {
		p, ok := addr.Mask(x.a, x.bits)
		if ok != x.want || !ok && p != (api.Prefix{}) {
			t.Errorf("Mask(%v, %d) is %v, %v", x.a, x.bits, p, ok)
		}
	}
}

// P12.2: the bits ahead are the address's own, those behind are 0, each bit in turn.
func TestMaskEachBit(t *testing.T) {
	for _, a := range []api.Addr{four(0, 0, 0, 0), four(255, 255, 255, 255), {Six: true}, six("ffffffffffffffffffffffffffffffff")} {
		for bit := range most(a) {
			b := turned(a, bit)
			for bits := range most(a) + 1 {
				wantMask(t, b, bits)
				p, _ := addr.Mask(a, bits)
				q, _ := addr.Mask(b, bits)
				if (p == q) != (bit >= bits) {
					t.Errorf("the prefixes of %v and %v of %d bits: %v, %v", a, b, bits, p, q)
				}
			}
		}
	}
}

// P12.2: Mask is as the library has it.
func TestMaskAsTheLibrary(t *testing.T) {
	for _, a := range goods(23, 100) {
		x, _ := netip.AddrFromSlice(slowBytes(a))
		for bits := range most(a) + 1 {
			want, err := x.Prefix(bits)
			p, ok := addr.Mask(a, bits)
			if y, _ := netip.AddrFromSlice(slowBytes(p.Addr)); err != nil || !ok || y != want.Addr() || p.Bits != want.Bits() {
				t.Errorf("Mask(%v, %d) is %v, %v", a, bits, p, ok)
			}
		}
	}
}

// P12.2: Mask of a prefix's address is that prefix, and of fewer bits that of the address.
func TestMaskOfMask(t *testing.T) {
	for _, a := range goods(24, 30) {
		for bits := range most(a) + 1 {
			p, _ := addr.Mask(a, bits)
			for fewer := range bits + 1 {
				x, _ := addr.Mask(a, fewer)
				if y, ok := addr.Mask(p.Addr, fewer); x != y || !ok {
					t.Errorf("Mask of Mask(%v, %d) by %d is %v", a, bits, fewer, y)
				}
			}
		}
	}
}

// P12.2: some that are told by hand.
func TestIn(t *testing.T) {
	ten := api.Prefix{Addr: four(10, 0, 0, 0), Bits: 8}
	all4, all6 := api.Prefix{}, api.Prefix{Addr: api.Addr{Six: true}}
	for _, x := range []struct {
		a    api.Addr
		p    api.Prefix
		want bool
	}{
		{four(10, 0, 0, 0), ten, true},
		{four(10, 255, 255, 255), ten, true},
		{four(9, 255, 255, 255), ten, false},
		{four(11, 0, 0, 0), ten, false},
		{four(0, 0, 0, 10), ten, false},
		{likeFour(four(10, 0, 0, 0)), ten, false},
		{six("0a000000000000000000000000000000"), ten, false},
		{four(10, 0, 0, 0), api.Prefix{Addr: likeFour(four(10, 0, 0, 0)), Bits: 8}, false},
		{four(10, 0, 0, 0), api.Prefix{Addr: six("0a000000000000000000000000000000"), Bits: 8}, false},
		{api.Addr{B: [16]byte{11: 1, 12: 10}}, ten, false},
		{api.Addr{B: [16]byte{0: 1, 12: 10}}, ten, false},
		{four(10, 0, 0, 0), api.Prefix{Addr: four(10, 0, 0, 1), Bits: 8}, false},
		{four(10, 0, 0, 1), api.Prefix{Addr: four(10, 0, 0, 1), Bits: 8}, false},
		{four(10, 0, 0, 1), api.Prefix{Addr: four(10, 0, 0, 1), Bits: 32}, true},
		{four(10, 0, 0, 1), api.Prefix{Addr: four(10, 0, 0, 1), Bits: 33}, false},
		{four(10, 0, 0, 1), api.Prefix{Addr: four(10, 0, 0, 1), Bits: -1}, false},
		{four(10, 0, 0, 1), api.Prefix{Addr: four(10, 0, 0, 1), Bits: 128}, false},
		{four(1, 2, 3, 4), all4, true},
		{api.Addr{}, all4, true},
		{api.Addr{Six: true}, all4, false},
		{api.Addr{B: [16]byte{1}}, all4, false},
		{six("20010db8000000000000000000000001"), all6, true},
		{api.Addr{Six: true}, all6, true},
		{api.Addr{}, all6, false},
		{api.Addr{}, api.Prefix{Bits: -1}, false},
		{api.Addr{}, api.Prefix{Bits: 33}, false},
		{api.Addr{B: [16]byte{1}}, api.Prefix{Addr: api.Addr{B: [16]byte{1}}, Bits: 8}, false},
		{api.Addr{}, api.Prefix{Addr: api.Addr{B: [16]byte{1}}}, false},
		{six("20010db8ffffffffffffffffffffffff"), api.Prefix{Addr: six("20010db8000000000000000000000000"), Bits: 32}, true},
		{six("20010db9000000000000000000000000"), api.Prefix{Addr: six("20010db8000000000000000000000000"), Bits: 32}, false},
		{six("20010db8000000000000000000000001"), api.Prefix{Addr: six("20010db8000000000000000000000001"), Bits: 128}, true},
		{six("20010db8000000000000000000000001"), api.Prefix{Addr: six("20010db8000000000000000000000001"), Bits: 129}, false},
	} {
		if got := addr.In(x.a, x.p); got != x.want {
			t.Errorf("In(%v, %v) is %v", x.a, x.p, got)
		}
		wantIn(t, x.a, x.p)
	}
}

// P12.2, P12.6: an address is in each prefix of its own; one that differs in the last bit that counts isn't, one that differs in the first that doesn't is.
func TestInAtTheEdge(t *testing.T) {
	for _, a := range goods(25, 60) {
		for bits := range most(a) + 1 {
			p, _ := slowMask(a, bits)
			if !addr.In(a, p) || !addr.In(p.Addr, p) {
				t.Errorf("%v is not in its prefix %v", a, p)
			}
			if bits > 0 && addr.In(turned(a, bits-1), p) {
				t.Errorf("%v is in %v", turned(a, bits-1), p)
			}
			if bits < most(a) && !addr.In(turned(a, bits), p) {
				t.Errorf("%v is not in %v", turned(a, bits), p)
			}
		}
	}
}

// P12.2: each bit that counts, and each that doesn't.
func TestInEachBit(t *testing.T) {
	for _, a := range append(goods(26, 1), four(85, 85, 85, 85), six("55555555555555555555555555555555")) {
		for bits := range most(a) + 1 {
			p, _ := slowMask(a, bits)
			for bit := range most(a) {
				if got := addr.In(turned(a, bit), p); got != (bit >= bits) {
					t.Errorf("In(%v, %v) is %v", turned(a, bit), p, got)
				}
			}
		}
	}
}

// P12.2: no address is in a prefix whose further bits are not 0, not even its own address.
func TestInOfWhatIsNoPrefix(t *testing.T) {
	for _, a := range goods(27, 10) {
		for bits := range most(a) {
			good, _ := slowMask(a, bits)
			for bit := bits; bit < most(a); bit++ {
				p := api.Prefix{Addr: turned(good.Addr, bit), Bits: bits}
				for _, x := range []api.Addr{a, p.Addr, good.Addr} {
					if addr.In(x, p) {
						t.Errorf("%v is in %v", x, p)
					}
				}
			}
		}
	}
}

// P12.2: no address is in a prefix whose Bits may not be, and none that is not good is in any.
func TestInOfWrongArguments(t *testing.T) {
	for _, a := range append(goods(28, 20), bads(29, 20)...) {
		for _, bits := range append([]int{33, 34, 64, 96, 127, 128}, strange...) {
			for _, p := range []api.Prefix{{Addr: a, Bits: bits}, {Bits: bits}, {Addr: api.Addr{Six: true}, Bits: bits}} {
				wantIn(t, a, p)
				wantIn(t, p.Addr, p)
			}
		}
		for bits := range 129 {
			p, _ := slowMask(a, bits)
			other := p
			other.Addr.Six = !other.Addr.Six
			wantIn(t, a, other)
			wantIn(t, other.Addr, p)
			wantIn(t, a, api.Prefix{Addr: a, Bits: bits})
		}
	}
}

// P12.2: bytes ahead of those of IPv4 that are not 0 keep an address out of each prefix, and a prefix from having any.
func TestInBytesAhead(t *testing.T) {
	for _, bad := range bads(30, 20) {
		good := made(slowBytes(bad))
		for bits := range 33 {
			p, _ := slowMask(good, bits)
			q := api.Prefix{Addr: p.Addr, Bits: bits}
			copy(q.Addr.B[:12], bad.B[:12])
			for _, x := range []struct {
				a api.Addr
				p api.Prefix
			}{{bad, p}, {bad, q}, {good, q}, {q.Addr, q}, {q.Addr, p}} {
				if addr.In(x.a, x.p) {
					t.Errorf("%v is in %v", x.a, x.p)
				}
			}
		}
	}
}

// P12.2: In of each two of many, held against the document's words.
func TestInOfMany(t *testing.T) {
	r := draw(31)
	l := append(goods(32, 30), bads(33, 10)...)
	for _, a := range l {
		for _, b := range l {
			for range 4 {
				p, _ := slowMask(b, r.IntN(most(b)+1))
				wantIn(t, a, p)
				near := p.Addr
				near.B[12+r.IntN(4)] = byte(r.Uint32())
				wantIn(t, near, p)
				wantIn(t, a, api.Prefix{Addr: near, Bits: p.Bits})
			}
		}
	}
}

// P12.6: an address is in its own Mask; what is in a prefix of more bits is in that of fewer bits of the same address.
func TestWithin(t *testing.T) {
	r := draw(34)
	for _, a := range goods(35, 20) {
		for more := range most(a) + 1 {
			p, ok := addr.Mask(a, more)
			if !ok || !addr.In(a, p) {
				t.Errorf("%v is not in its own Mask by %d", a, more)
			}
			x := a
			for bit := more; bit < most(a); bit++ {
				if r.IntN(2) == 0 {
					x = turned(x, bit)
				}
			}
			if !addr.In(x, p) {
				t.Errorf("%v is not in %v", x, p)
			}
			for fewer := range more + 1 {
				if q, ok := addr.Mask(a, fewer); !ok || !addr.In(x, q) || !addr.In(p.Addr, q) {
					t.Errorf("%v, in %v, is not in %v", x, p, q)
				}
			}
		}
	}
}
