package addr_test

import (
	"bytes"
	"net/netip"
	"testing"

	"stanchion/addr"
	"stanchion/api"
)

// The chapter's example, and what stands around it.
func TestExample(t *testing.T) {
	a := addr.Four(10, 0, 0, 255)
	if s := addr.Show(a); s != "10.0.0.255" {
		t.Error(s)
	}
	p, ok := addr.Mask(a, 8)
	if s := addr.ShowPrefix(p); s != "10.0.0.0/8" || !ok {
		t.Error(s, ok)
	}
	if p != (api.Prefix{Addr: api.Addr{B: [16]byte{12: 10}}, Bits: 8}) {
		t.Error(p)
	}
	if !addr.In(a, p) {
		t.Error("it is not in its prefix")
	}
	if x, ok := addr.Parse("10.0.0.255"); x != a || !ok {
		t.Error(x, ok)
	}
	if x, ok := addr.ParsePrefix("10.0.0.0/8"); x != p || !ok {
		t.Error(x, ok)
	}
}

// P12.1: Four lays its bytes at the end, in their order, with 0 ahead of them, each byte of each value.
func TestFour(t *testing.T) {
	if a := addr.Four(1, 2, 3, 4); a != (api.Addr{B: [16]byte{0, 0, 0, 0, 0, 0, 0, 0, 0, 0, 0, 0, 1, 2, 3, 4}}) {
		t.Error(a)
	}
	if a := addr.Four(0, 0, 0, 0); a != (api.Addr{}) {
		t.Error(a)
	}
	for x := range 256 {
		for at := range 4 {
			b := []byte{7, 8, 9, 10}
			b[at] = byte(x)
			if a := addr.Four(b[0], b[1], b[2], b[3]); a != four(b...) || a.Six {
				t.Errorf("Four of %v is %v", b, a)
			}
		}
	}
}

// P12.1: of IPv6 each address is good; of IPv4 those whose first twelve bytes are 0, each of them.
func TestGood(t *testing.T) {
	for _, a := range goods(1, 500) {
		if !addr.Good(a) {
			t.Errorf("%v is not good", a)
		}
	}
	for _, a := range bads(2, 500) {
		if addr.Good(a) {
			t.Errorf("%v is good", a)
		}
		if a.Six = true; !addr.Good(a) {
			t.Errorf("%v is not good", a)
		}
	}
	for at := range 16 {
		for x := range 256 {
			for _, six := range []bool{false, true} {
				a := api.Addr{Six: six}
				a.B[at] = byte(x)
				if got, want := addr.Good(a), six || at >= 12 || x == 0; got != want {
					t.Errorf("Good(%v) is %v", a, got)
				}
			}
		}
	}
}

// P12.1: two bytes ahead of those of IPv4 that undo each other make it no good address.
func TestGoodTwoBytes(t *testing.T) {
	for i := range 12 {
		for j := range i {
			for _, x := range []byte{1, 128, 255} {
				a := four(1, 2, 3, 4)
				a.B[i], a.B[j] = x, -x
				if addr.Good(a) {
					t.Errorf("%v is good", a)
				}
			}
		}
	}
}

// P12.1: Of takes four bytes, or sixteen, and no other number of them.
func TestOf(t *testing.T) {
	r := draw(3)
	for range 500 {
		for _, n := range []int{4, 16} {
			b := anyBytes(r, n)
			if a, ok := addr.Of(b); a != made(b) || !ok {
				t.Errorf("Of(%v) is %v, %v", b, a, ok)
			}
		}
	}
	for n := range 300 {
		b := bytes.Repeat([]byte{1}, n)
		a, ok := addr.Of(b)
		if may := n == 4 || n == 16; ok != may {
			t.Errorf("Of %d bytes: %v", n, ok)
		} else if !may && a != (api.Addr{}) {
			t.Errorf("Of %d bytes: %v beside false", n, a)
		}
	}
	for _, b := range [][]byte{nil, {}, make([]byte, 3), make([]byte, 5), make([]byte, 15), make([]byte, 17), make([]byte, 1<<16+4), make([]byte, 1<<16+16)} {
		if a, ok := addr.Of(b); a != (api.Addr{}) || ok {
			t.Errorf("Of %d bytes: %v, %v", len(b), a, ok)
		}
	}
}

// P12.1: bytes 0 are addresses too, each of its kind; sixteen bytes that look like one of IPv4 are one of IPv6.
func TestOfKinds(t *testing.T) {
	for _, x := range []struct {
		b    []byte
		want api.Addr
	}{
		{make([]byte, 4), api.Addr{}},
		{make([]byte, 16), api.Addr{Six: true}},
		{[]byte{10, 0, 0, 255}, four(10, 0, 0, 255)},
		{[]byte{12: 10, 15: 255}, likeFour(four(10, 0, 0, 255))},
		{[]byte{10: 255, 11: 255, 12: 10, 15: 255}, six("00000000000000000000ffff0a0000ff")},
		{[]byte{1, 2, 3, 4, 5, 6, 7, 8, 9, 10, 11, 12, 13, 14, 15, 16}, six("0102030405060708090a0b0c0d0e0f10")},
	} {
		if a, ok := addr.Of(x.b); a != x.want || !ok {
			t.Errorf("Of(%v) is %v, %v", x.b, a, ok)
		}
	}
}

// P12.1: Bytes are the last four of IPv4, all sixteen of IPv6.
func TestBytes(t *testing.T) {
	if b := addr.Bytes(four(1, 2, 3, 4)); !bytes.Equal(b, []byte{1, 2, 3, 4}) {
		t.Error(b)
	}
	if b := addr.Bytes(six("0102030405060708090a0b0c0d0e0f10")); !bytes.Equal(b, []byte{1, 2, 3, 4, 5, 6, 7, 8, 9, 10, 11, 12, 13, 14, 15, 16}) {
		t.Error(b)
	}
	if b := addr.Bytes(api.Addr{}); !bytes.Equal(b, make([]byte, 4)) {
		t.Error(b)
	}
	if b := addr.Bytes(api.Addr{Six: true}); !bytes.Equal(b, make([]byte, 16)) {
		t.Error(b)
	}
	for _, a := range append(goods(4, 500), bads(5, 100)...) {
		if b := addr.Bytes(a); !bytes.Equal(b, slowBytes(a)) {
			t.Errorf("Bytes(%v) is %v", a, b)
		}
	}
}

// P12.5: Of of Bytes is the address; Bytes of Of are the bytes.
func TestOfBytes(t *testing.T) {
	for _, a := range goods(6, 1000) {
		if x, ok := addr.Of(addr.Bytes(a)); x != a || !ok {
			t.Errorf("Of of Bytes of %v is %v, %v", a, x, ok)
		}
	}
	r := draw(7)
	for range 1000 {
		for _, n := range []int{4, 16} {
			b := anyBytes(r, n)
			a, _ := addr.Of(b)
			if got := addr.Bytes(a); !bytes.Equal(got, b) {
				t.Errorf("Bytes of Of(%v) is %v", b, got)
			}
		}
	}
}

// wantLess holds Less of both ways round, and of each alone, against the document's words.
func wantLess(t *testing.T, a, b api.Addr) {
	t.Helper()
	for _, x := range [][2]api.Addr{{a, b}, {b, a}, {a, a}, {b, b}} {
		if got, want := addr.Less(x[0], x[1]), slowLess(x[0], x[1]); got != want {
			t.Errorf("Less(%v, %v) is %v", x[0], x[1], got)
		}
	}
}

// P12.1: some that are told by hand.
func TestLess(t *testing.T) {
	for _, x := range []struct {
		a, b api.Addr
	}{
		{four(0, 0, 0, 0), four(0, 0, 0, 1)},
		{four(1, 2, 3, 4), four(1, 2, 3, 5)},
		{four(9, 255, 255, 255), four(10, 0, 0, 0)},
		{four(127, 0, 0, 0), four(128, 0, 0, 0)},
		{four(1, 0, 0, 2), four(2, 0, 0, 1)},
		{four(255, 255, 255, 255), six("00000000000000000000000000000000")},
		{four(0, 0, 0, 0), six("00000000000000000000000000000000")},
		{four(1, 2, 3, 4), likeFour(four(1, 2, 3, 4))},
		{four(1, 2, 3, 4), likeFour(four(1, 2, 3, 3))},
		{six("00000000000000000000000000000000"), six("00000000000000000000000000000001")},
		{six("00ffffffffffffffffffffffffffffff"), six("01000000000000000000000000000000")},
		{six("7fffffffffffffffffffffffffffffff"), six("80000000000000000000000000000000")},
		{six("20010db8000000000000000000000002"), six("20010db8000000010000000000000001")},
	} {
		if !addr.Less(x.a, x.b) || addr.Less(x.b, x.a) || addr.Less(x.a, x.a) || addr.Less(x.b, x.b) {
			t.Errorf("%v and %v are not in their order", x.a, x.b)
		}
	}
}

// P12.1: addresses that differ in one byte at each place, and behind it in any way.
func TestLessEachPlace(t *testing.T) {
	r := draw(8)
	for _, a := range append(goods(9, 20), bads(10, 20)...) {
		for at := range 16 {
			for _, x := range []byte{1, 127, 128, 129, 255} {
				b := a
				b.B[at] += x
				wantLess(t, a, b)
				copy(b.B[at+1:], anyBytes(r, 15-at))
				wantLess(t, a, b)
			}
		}
	}
}

// P12.1: Less of each two of many, of both kinds, good or not, as the library has it too, where it knows them.
func TestLessOfMany(t *testing.T) {
	l := append(goods(11, 60), bads(12, 20)...)
	for _, a := range l {
		for _, b := range l {
			wantLess(t, a, b)
			wantLess(t, a, likeFour(b))
			if slowGood(a) && slowGood(b) {
				x, _ := netip.AddrFromSlice(slowBytes(a))
				y, _ := netip.AddrFromSlice(slowBytes(b))
				if addr.Less(a, b) != x.Less(y) {
					t.Errorf("Less(%v, %v) is not as the library has it", a, b)
				}
			}
		}
	}
}

// P12.1: Less is an order: of any two that are unlike just one is less, and what is less than a less one is less.
func TestLessIsAnOrder(t *testing.T) {
	l := append(goods(13, 12), bads(14, 2)[:20]...)
	for _, a := range l {
		for _, b := range l {
			if (addr.Less(a, b) || addr.Less(b, a)) != (a != b) || addr.Less(a, b) && addr.Less(b, a) {
				t.Errorf("%v and %v: not just one is less", a, b)
			}
			for _, c := range l {
				if addr.Less(a, b) && addr.Less(b, c) && !addr.Less(a, c) {
					t.Errorf("%v, %v, %v are not in order", a, b, c)
				}
			}
		}
	}
}
