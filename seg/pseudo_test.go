package seg_test

import (
	"bytes"
	"math"
	"testing"

	"stanchion/api"
	"stanchion/seg"
)

// wantPseudo holds Pseudo against want.
func wantPseudo(t *testing.T, h api.Head, size int, want []byte) {
	t.Helper()
	if b := seg.Pseudo(h, size); !bytes.Equal(b, want) {
		t.Errorf("Pseudo of %v and %d is %x, not %x", h, size, b, want)
	}
}

// P15.1: what is summed with, told by hand: of sizes of one byte, of two, and of more.
func TestPseudoTold(t *testing.T) {
	const ends4 = "c0a80001 0a0007c7"
	const ends6 = "20010db8000000000000000000000001 fe800000000000000202b3fffe1e8329"
	for _, x := range []struct {
		h    api.Head
		size int
		want string
	}{
		{tcp4, 0, ends4 + "00 06 0000"},
		{tcp4, 20, ends4 + "00 06 0014"},
		{tcp4, 255, ends4 + "00 06 00ff"},
		{tcp4, 256, ends4 + "00 06 0100"},
		{tcp4, 0xabcd, ends4 + "00 06 abcd"},
		{tcp4, 65535, ends4 + "00 06 ffff"},
		{udp4, 8, "0a0007c7 c0a80001 00 11 0008"},
		{tcp6, 0, ends6 + "00000000 000000 06"},
		{tcp6, 20, ends6 + "00000014 000000 06"},
		{tcp6, 0xabcd, ends6 + "0000abcd 000000 06"},
		{tcp6, 0xabcdef, ends6 + "00abcdef 000000 06"},
		{tcp6, 0x12345678, ends6 + "12345678 000000 06"},
		{udp6, 258, "fe800000000000000202b3fffe1e8329 20010db8000000000000000000000001" + "00000102 000000 11"},
	} {
		wantPseudo(t, x.h, x.size, unhex(x.want))
	}
}

// P15.1: each Proto, such as no segment has, too.
func TestPseudoProtos(t *testing.T) {
	for _, h := range heads() {
		for n := range 256 {
			h.Proto = byte(n)
			for _, size := range []int{1, 700, 70000} {
				wantPseudo(t, h, size, slowPseudo(h, size))
			}
		}
	}
}

// P15.1: each size of two bytes, and greater ones of IPv6.
func TestPseudoSizes(t *testing.T) {
	for _, h := range heads() {
		for size := range 1 << 16 {
			wantPseudo(t, h, size, slowPseudo(h, size))
		}
		for bit := 16; h.Six && bit < 32; bit++ {
			for _, size := range []int{1<<bit - 1, 1 << bit, 1<<bit + 1, 1<<bit + 0xa5} {
				wantPseudo(t, h, size, slowPseudo(h, size))
			}
		}
	}
}

// Rules, Ends: sizes that no segment has: there are as many bytes, and all but the size are as ever.
func TestPseudoNoSizes(t *testing.T) {
	for _, h := range heads() {
		for _, size := range []int{-1, -256, math.MinInt, math.MinInt32, 1 << 16, 1 << 32, 1<<32 + 5, math.MaxInt} {
			b, want := seg.Pseudo(h, size), slowPseudo(h, size)
			at, end := 10, 12
			if h.Six {
				at, end = 32, 36
			}
			if len(b) != len(want) || !bytes.Equal(b[:at], want[:at]) || !bytes.Equal(b[end:], want[end:]) {
				t.Errorf("Pseudo of %v and %d is %x", h, size, b)
			}
		}
	}
}

// P15.1: each byte of each address has its place; what else a head says plays no part.
func TestPseudoAddresses(t *testing.T) {
	r := draw(11)
	for range 5000 {
		h := drawn(r)
		size := r.IntN(3000)
		want := slowPseudo(h, size)
		wantPseudo(t, h, size, want)
		h.At, h.Part, h.Hops = r.IntN(100)-50, r.IntN(2) == 0, byte(r.Uint32())
		wantPseudo(t, h, size, want)
	}
}

// P15.1: the kind is that of the head; its addresses, which may be of another one, stand with as many bytes as theirs has.
func TestPseudoKinds(t *testing.T) {
	for _, h := range heads() {
		for choice := range 8 {
			h.Six, h.Src.Six, h.Dst.Six = choice&1 == 1, choice&2 == 2, choice&4 == 4
			wantPseudo(t, h, 0xabcd, slowPseudo(h, 0xabcd))
		}
	}
}

// Rules, Memory: what is told is new memory: not another one's, nor is there room that two share.
func TestPseudoNewMemory(t *testing.T) {
	for _, h := range heads() {
		one, two := seg.Pseudo(h, 77), seg.Pseudo(h, 77)
		flip(one[:cap(one)])
		if want := slowPseudo(h, 77); !bytes.Equal(two, want) {
			t.Errorf("%x became %x", want, two)
		}
		wantPseudo(t, h, 77, slowPseudo(h, 77))
	}
}
