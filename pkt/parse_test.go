package pkt_test

import (
	"testing"

	"stanchion/api"
)

// P16.1: packets whose bytes and sums others tell, or that are put together by hand.
func TestParseTold(t *testing.T) {
	hostA, hostB := four(10, 0, 0, 1), four(10, 0, 0, 2)
	web, client := four(65, 208, 228, 223), four(145, 254, 160, 237)
	far, near := six(unhex("20010db8 00000000 00000000 00000001")...), six(unhex("20010db8 00000000 00000000 00000002")...)
	for _, x := range []struct {
		b    string
		want api.Packet
	}{
		{"4500001c 00000000 401166cf 0a000001 0a000002 0005 0006 0008 ebd0", api.Packet{
			Head: api.Head{Proto: 17, At: 20, Src: hostA, Dst: hostB, Hops: 64},
			Seg:  api.Seg{Src: 5, Dst: 6, SumAt: 6, Data: 8},
			Flow: api.Flow{Src: hostA, Dst: hostB, SrcPort: 5, DstPort: 6, Proto: 17},
		}},
		{"4500001c 00000000 401166cf 0a000001 0a000002 0005 0006 0008 0000", api.Packet{
			Head: api.Head{Proto: 17, At: 20, Src: hostA, Dst: hostB, Hops: 64},
			Seg:  api.Seg{Src: 5, Dst: 6, SumAt: 6, Data: 8, Zero: true},
			Flow: api.Flow{Src: hostA, Dst: hostB, SrcPort: 5, DstPort: 6, Proto: 17},
		}},
		{"462e0020 12340000 01119068 0a000001 0a000002 01010100 0005 0006 0008 ebd0", api.Packet{
			Head: api.Head{Proto: 17, At: 24, Src: hostA, Dst: hostB, Hops: 1},
			Seg:  api.Seg{Src: 5, Dst: 6, SumAt: 6, Data: 8},
			Flow: api.Flow{Src: hostA, Dst: hostB, SrcPort: 5, DstPort: 6, Proto: 17},
		}},
		{"45000030 0f414000 800691eb 91fea0ed 41d0e4df 0d2c0050 38affe13 00000000 70022238 c30c0000 020405b4 01010402", api.Packet{
			Head: api.Head{Proto: 6, At: 20, Src: client, Dst: web, Hops: 128},
			Seg:  api.Seg{Src: 3372, Dst: 80, Flags: 2, SumAt: 16, Data: 28},
			Flow: api.Flow{Src: client, Dst: web, SrcPort: 3372, DstPort: 80, Proto: 6},
		}},
		{"60000000 0009 11 07 20010db8000000000000000000000001 20010db8000000000000000000000002 0035 1234 0009 e6fd ab", api.Packet{
			Head: api.Head{Six: true, Proto: 17, At: 40, Src: far, Dst: near, Hops: 7},
			Seg:  api.Seg{Src: 53, Dst: 4660, SumAt: 6, Data: 8},
			Flow: api.Flow{Src: far, Dst: near, SrcPort: 53, DstPort: 4660, Proto: 17},
		}},
		{"6b012345 0028 00 40 20010db8000000000000000000000001 20010db8000000000000000000000002 2c00050200000100 0600000012345678 01020304 11223344 55667788 60022000 076b0000 020405a0", api.Packet{
			Head: api.Head{Six: true, Proto: 6, At: 56, Src: far, Dst: near, Hops: 64},
			Seg:  api.Seg{Src: 258, Dst: 772, Flags: 2, SumAt: 16, Data: 24},
			Flow: api.Flow{Src: far, Dst: near, SrcPort: 258, DstPort: 772, Proto: 6},
		}},
	} {
		wantParse(t, "told by hand", unhex(x.b), x.want, api.OK)
		asParse(t, "the model", unhex(x.b))
	}
}

// P16.1: no bytes are too short, whether there is room for some or not.
func TestParseNoBytes(t *testing.T) {
	wantErr(t, "nil", nil, api.ErrShort)
	wantErr(t, "no bytes", []byte{}, api.ErrShort)
	for _, f := range flows() {
		wantErr(t, "spare room", plain(f, 2, 9, nil).lay()[:0], api.ErrShort)
	}
}

// P16.1: each first byte, of packets of each kind and size: but for two numbers in its higher half the version is told, ahead of all else.
func TestParseVersions(t *testing.T) {
	for _, f := range flows() {
		sound := plain(f, 2, 9, text(30, 1)).lay()
		for n := range 256 {
			first := byte(n)
			for _, b := range [][]byte{sound, sound[:1], sound[:19], sound[:20], sound[:39], sound[:41], make([]byte, 1), make([]byte, 2048), make([]byte, 2049), make([]byte, 1<<17)} {
				_, e := asParse(t, "a first byte", put(b, 0, first))
				if kind := n / 16; (e == api.ErrVersion) != (kind != 4 && kind != 6) {
					t.Errorf("first byte %x, %d bytes: %d", n, len(b), e)
				}
			}
			if _, e := asParse(t, "a first byte", put(sound, 0, first)); (e == api.OK) != (n == int(sound[0]) || f.Src.Six && n/16 == 6) {
				t.Errorf("first byte %x in place of %x: %d", n, sound[0], e)
			}
		}
	}
}

// P16.1: a packet goes by its own kind: what is one of the other kind, but for its version, is none.
func TestParseOtherKind(t *testing.T) {
	for _, f := range flows() {
		b := plain(f, 2, 9, text(60, 2)).lay()
		if _, e := asParse(t, "the other kind", put(b, 0, b[0]^0x20)); e == api.OK {
			t.Errorf("%x is of the other kind, too", b)
		}
	}
	b := plain(udp6, 0, 9, text(2008, 3)).lay()
	wantErr(t, "too many bytes of IPv6", append(b, 0), api.ErrLong)
	wantErr(t, "forty bytes say twenty", put(make([]byte, 40), 0, 0x60, 0, 0, 0, 0, 1), api.ErrShort)
	wantErr(t, "thirty bytes of IPv6", put(make([]byte, 30), 0, 0x60), api.ErrShort)
	wantErr(t, "thirty bytes of IPv4", put(make([]byte, 30), 0, 0x45), api.ErrForm)
}

// P16.1: heads of each size, of IPv4 and of TCP, with data of some sizes.
func TestParseOptions(t *testing.T) {
	r := draw(4)
	for n := 5; n <= 15; n++ {
		for size := range 20 {
			d := plain(udp4, 0, byte(n), text(size, r.Uint64())).options(r, n)
			wantParse(t, "options", d.lay(), d.packet(), api.OK)
			d = plain(tcp6, byte(size), 3, text(size, r.Uint64())).words(r, n)
			wantParse(t, "options of TCP", d.lay(), d.packet(), api.OK)
			for m := 5; m <= 15; m++ {
				d = plain(tcp4, byte(m), byte(n), text(size, r.Uint64())).options(r, n).words(r, m)
				wantParse(t, "options of both", d.lay(), d.packet(), api.OK)
			}
		}
	}
}

// P16.1: heads between, of each kind, one and several, up to as many as there may be; the ninth is too many.
func TestParseBetween(t *testing.T) {
	r := draw(5)
	for _, f := range []api.Flow{tcp6, udp6} {
		for _, kind := range []byte{0, 43, 44, 60} {
			for more := range byte(5) {
				d := plain(f, 18, 200, text(9, r.Uint64())).between(r, extra{kind, more})
				wantParse(t, "a head between", d.lay(), d.packet(), api.OK)
				l := []extra{{kind, more}}
				for n := 2; n <= 10; n++ {
					l = append(l, extra{[]byte{60, 44, 43}[r.IntN(3)], byte(r.IntN(3))})
					d := plain(f, 18, 200, text(n, r.Uint64())).between(r, l...)
					if n > 8 {
						wantErr(t, "many heads between", d.lay(), api.ErrLong)
					} else {
						wantParse(t, "heads between", d.lay(), d.packet(), api.OK)
					}
				}
			}
		}
	}
}

// P16.1: of IPv4 each number in bytes 6 and 7: all but two make a part, or are none.
func TestParsePartsOfFour(t *testing.T) {
	for _, f := range []api.Flow{tcp4, udp4} {
		for n := range 1 << 16 {
			d := plain(f, 16, 64, []byte{1, 2, 3})
			d.partWords = n
			switch b := d.lay(); {
			case n >= 0x8000:
				wantErr(t, "the highest bit", b, api.ErrForm)
			case n == 0 || n == 0x4000:
				wantParse(t, "whole", b, d.packet(), api.OK)
			default:
				wantErr(t, "a part", b, api.ErrState)
			}
		}
	}
}

// P16.1: of IPv6 each number in bytes 2 and 3 of a head of kind 44, which stands first, between or last.
func TestParsePartsOfSix(t *testing.T) {
	for _, f := range []api.Flow{tcp6, udp6} {
		for place, l := range [][]extra{{{44, 9}}, {{44, 0}, {60, 1}}, {{43, 0}, {44, 1}}, {{0, 0}, {44, 0}, {43, 0}}} {
			d := plain(f, 16, 64, []byte{1, 2, 3}).between(draw(6), l...)
			at := 40 + place/2*8
			for n := range 1 << 16 {
				d.head[at+2], d.head[at+3] = byte(n>>8), byte(n)
				if n&^6 == 0 {
					wantParse(t, "whole", d.lay(), d.packet(), api.OK)
				} else {
					wantErr(t, "a part", d.lay(), api.ErrState)
				}
			}
		}
	}
}

// P16.1: a part is told ahead of all that is wrong in what it carries, whatever that is.
func TestParsePartAhead(t *testing.T) {
	r := draw(7)
	for _, proto := range []byte{0, 1, 6, 17, 41, 58, 255} {
		for size := range 30 {
			f := tcp4
			f.Proto = proto
			d := plain(f, 0, 1, nil)
			d.seg = text(size, r.Uint64())
			for _, n := range []int{1, 0x2000, 0x1fff, 0x6000, 0x4001} {
				d.partWords = n
				wantErr(t, "a part of IPv4", d.lay(), api.ErrState)
			}
			if proto == 0 {
				continue // of IPv6 a head that stands between
			}
			f = udp6
			f.Proto = proto
			d = plain(f, 0, 1, nil)
			d.seg = text(size, r.Uint64())
			d.between(r, extra{44, 0})
			d.head[43] |= 1
			wantErr(t, "a part of IPv6", d.lay(), api.ErrState)
		}
	}
}

// P16.1: each Proto that a packet may carry: of all but two there is no segment.
func TestParseProtos(t *testing.T) {
	for _, f := range flows() {
		for n := range 256 {
			f.Proto = byte(n)
			d := plain(f, 2, 9, text(30, 8))
			_, e := asParse(t, "a Proto", d.lay())
			stands := f.Src.Six && (n == 0 || n == 43 || n == 44 || n == 60)
			if !stands && (e == api.ErrNone) != (n != 6 && n != 17) {
				t.Errorf("%v: %d", f, e)
			}
		}
	}
}

// P16.1: nothing behind the head: of TCP and UDP too short, of all others no segment.
func TestParseNothingBehind(t *testing.T) {
	for _, f := range flows() {
		for n := range 256 {
			f.Proto = byte(n)
			d := plain(f, 2, 9, nil)
			d.seg = nil
			want := api.ErrNone
			if n == 6 || n == 17 || f.Src.Six && (n == 0 || n == 43 || n == 44 || n == 60) {
				want = api.ErrShort
			}
			wantErr(t, "nothing behind", d.lay(), want)
		}
	}
}

// P16.1: data of each size, up to the longest packet there may be, and one more byte.
func TestParseSizes(t *testing.T) {
	for _, f := range flows() {
		data := text(2048, 9)
		for size := range 2049 {
			d := plain(f, 24, 255, data[:size])
			if b := d.lay(); len(b) <= 2048 {
				wantParse(t, "a size", b, d.packet(), api.OK)
			} else {
				wantErr(t, "too long", b, api.ErrLong)
			}
		}
	}
}

// P16.1: packets cut off at each byte, with the size that they say, and with that which they have; and with bytes behind.
func TestParseCutOff(t *testing.T) {
	r := draw(10)
	for range 4 {
		for _, f := range flows() {
			d := plain(f, 24, 255, text(20, r.Uint64()))
			if f.Src.Six {
				d.between(r, extra{60, 1}, extra{44, 0})
			} else {
				d.options(r, 7)
			}
			b := d.lay()
			for size := range len(b) {
				wantErr(t, "cut off", b[:size], api.ErrShort)
				d.segEnd = size
				asParse(t, "a segment cut off", d.lay())
			}
			for size := 1; size < 20; size++ {
				wantErr(t, "bytes behind", append(b, text(size, r.Uint64())...), api.ErrLong)
			}
		}
	}
}

// P16.1: ports of 0, one and both, of each kind; and ports of each number.
func TestParsePorts(t *testing.T) {
	for _, f := range flows() {
		for _, x := range [][2]uint16{{0, 0}, {0, 1}, {1, 0}, {0, 65535}, {65535, 0}, {256, 0}, {0, 256}} {
			f.SrcPort, f.DstPort = x[0], x[1]
			wantErr(t, "no port", plain(f, 2, 9, nil).lay(), api.ErrForm)
		}
		for n := 1; n < 1<<16; n++ {
			f.SrcPort, f.DstPort = uint16(n), uint16(n*7919)|1
			d := plain(f, byte(n), 9, nil)
			wantParse(t, "ports", d.lay(), d.packet(), api.OK)
		}
	}
}

// P16.1: each number of flags, and each of hops.
func TestParseFlagsAndHops(t *testing.T) {
	for _, f := range flows() {
		for n := range 256 {
			d := plain(f, byte(n), 9, text(n, 11))
			wantParse(t, "flags", d.lay(), d.packet(), api.OK)
			d = plain(f, 2, byte(n), text(n, 11))
			if n == 0 {
				wantErr(t, "no hops", d.lay(), api.ErrForm)
			} else {
				wantParse(t, "hops", d.lay(), d.packet(), api.OK)
			}
		}
	}
}

// P16.1: a packet of UDP without a sum is one of IPv4, none of IPv6.
func TestParseSumless(t *testing.T) {
	for size := range 40 {
		d := plain(udp4, 0, 9, text(size, 12))
		d.sumless = true
		wantParse(t, "without a sum", d.lay(), d.packet(), api.OK)
		d = plain(udp6, 0, 9, text(size, 12))
		d.sumless = true
		wantErr(t, "without a sum", d.lay(), api.ErrForm)
	}
}

// P16.1: addresses of all bytes: who talks to whom is told alike in the Head and in the Flow.
func TestParseAddresses(t *testing.T) {
	r := draw(13)
	for range 20000 {
		f := drawn(r)
		d := plain(f, byte(r.Uint32()), byte(1+r.IntN(255)), text(r.IntN(9), r.Uint64()))
		wantParse(t, "addresses", d.lay(), d.packet(), api.OK)
	}
}
