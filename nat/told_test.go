package nat_test

import (
	"bytes"
	"testing"

	"stanchion/api"
	"stanchion/nat"
	"stanchion/pkt"
)

// P17.1: packets whose bytes and sums are put together by hand, sent to and come from another address and port.
func TestTold(t *testing.T) {
	for _, x := range []struct {
		a           api.Addr
		port        uint16
		b, to, from string
	}{
		{
			a: four(192, 168, 7, 9), port: 8080,
			b:    "4500001c 00000000 401166cf 0a000001 0a000002 0005 0006 0008 ebd0",
			to:   "4500001c 00000000 4011a91f 0a000001 c0a80709 0005 1f90 0008 0e97",
			from: "4500001c 00000000 4011a91e c0a80709 0a000002 1f90 0006 0008 0e95",
		},
		{
			a: four(192, 168, 7, 9), port: 8080,
			b:    "4500002b 00000000 ff06a7ca 0a000001 0a000002 0102 0304 00000000 00000000 50120000 0e5e0000 686921",
			to:   "4500002b 00000000 ff06ea1a 0a000001 c0a80709 0102 1f90 00000000 00000000 50120000 34220000 686921",
			from: "4500002b 00000000 ff06ea19 c0a80709 0a000002 1f90 0304 00000000 00000000 50120000 321f0000 686921",
		},
		{
			a: six(unhex("fe8000000000000012345678abcdef01")...), port: 8080,
			b:    "60000000 0009 11 07 20010db8000000000000000000000001 20010db8000000000000000000000002 0035 1234 0009 e6fd ab",
			to:   "60000000 0009 11 07 20010db8000000000000000000000001 fe8000000000000012345678abcdef01 0035 1f90 0009 0560 ab",
			from: "60000000 0009 11 07 fe8000000000000012345678abcdef01 20010db8000000000000000000000002 1f90 1234 0009 f35f ab",
		},
	} {
		told := [][]byte{unhex(x.from), unhex(x.to)}
		for _, w := range ways() {
			w.want(t, "told by hand", unhex(x.b), x.a, x.port, told[w.end], api.OK)
			w.as(t, "the model", unhex(x.b), x.a, x.port)
		}
	}
}

// P17.1: the chapter's example: to the same address and port, of a packet that was built, is the packet; likewise from the same.
func TestSame(t *testing.T) {
	r := draw(11)
	for i := range 2000 {
		f := drawn(r)
		b, e := pkt.Build(f, byte(r.Uint32()), byte(1+r.IntN(255)), text(i%50, r.Uint64()))
		if e != api.OK {
			t.Fatalf("%v: %d", f, e)
		}
		if got, e := nat.To(b, f.Dst, f.DstPort); !bytes.Equal(got, b) || e != api.OK {
			t.Errorf("To of %x is %x, %d", b, got, e)
		}
		if got, e := nat.From(b, f.Src, f.SrcPort); !bytes.Equal(got, b) || e != api.OK {
			t.Errorf("From of %x is %x, %d", b, got, e)
		}
	}
}

// P17.1: the address, the port, or both are as they were, or those of the other end.
func TestAsTheyWere(t *testing.T) {
	r := draw(12)
	for range 300 {
		for _, f := range flows() {
			d := dressed(r, f)
			for _, w := range ways() {
				a, p := f.Src, f.SrcPort
				if w.end == 1 {
					a, p = f.Dst, f.DstPort
				}
				x, y := address(r, a.Six), port(r)
				if got := w.moves(t, "as it was", d, a, p); !bytes.Equal(got, d.lay()) {
					t.Errorf("%s of %x, as it was: %x", w.name, d.lay(), got)
				}
				w.moves(t, "another address", d, x, p)
				w.moves(t, "another port", d, a, y)
				w.moves(t, "both", d, x, y)
				w.moves(t, "the port from", d, x, f.SrcPort)
				w.moves(t, "the port to", d, x, f.DstPort)
				w.moves(t, "whence it comes", d, f.Src, y)
				w.moves(t, "whither it goes", d, f.Dst, y)
			}
		}
	}
}

// P17.1: each port but 0.
func TestPorts(t *testing.T) {
	for _, f := range flows() {
		d := plain(f, 16, 9, text(5, 13))
		b := d.lay()
		for _, w := range ways() {
			for n := range 65536 {
				got, e := w.do(b, sameKind(f.Src), uint16(n))
				if n == 0 {
					if got != nil || e != api.ErrArg {
						t.Errorf("%s port 0: %x, %d", w.name, got, e)
					}
					continue
				}
				if want := d.moved(w.end, sameKind(f.Src), uint16(n)).lay(); !bytes.Equal(got, want) || e != api.OK {
					t.Fatalf("%s port %d: %x, %d, not %x", w.name, n, got, e, want)
				}
			}
		}
	}
}

// sameKind is another address of a's kind.
func sameKind(a api.Addr) api.Addr {
	if a.Six {
		return six(unhex("00010002 00030004 00050006 00070008")...)
	}
	return four(1, 2, 3, 4)
}

// P17.1: data of each size, up to as many bytes as a packet may have.
func TestSizes(t *testing.T) {
	r := draw(14)
	for _, f := range flows() {
		base := len(plain(f, 0, 1, nil).lay())
		sizes := []int{0, 1, 2, 3, 4, 5, 7, 8, 254, 255, 256, 257, 1023, 1899, 1900, 1901, 2046 - base, 2047 - base, 2048 - base}
		for _, size := range sizes {
			d := plain(f, 24, 64, text(size, 15))
			for _, w := range ways() {
				if got := w.moves(t, "data", d, address(r, f.Src.Six), port(r)); len(got) != base+size {
					t.Errorf("%s of %d bytes has %d", w.name, base+size, len(got))
				}
			}
		}
		long := plain(f, 24, 64, text(2049-base, 16)).lay()
		for _, w := range ways() {
			w.wantErr(t, "2049 bytes", long, sameKind(f.Src), 80, api.ErrLong)
		}
	}
}

// P17.1: heads of each size, of IPv4 and of TCP, with nothing behind them, with some bytes, and with as many as may be.
func TestOptions(t *testing.T) {
	r := draw(17)
	for _, f := range []api.Flow{tcp4, udp4, tcp6} {
		for n := 5; n <= 15; n++ {
			for k := 5; k <= 15; k++ {
				for _, size := range []int{0, 1, 30, 2048} {
					d := plain(f, 2, 3, nil)
					if f.Proto == 6 {
						d.words(r, k)
					}
					if !f.Src.Six {
						d.options(r, n)
					}
					d.sized(r, max(size, len(d.head)+len(d.seg)+size%2048))
					for _, w := range ways() {
						w.moves(t, "options", d, address(r, f.Src.Six), port(r))
					}
				}
			}
		}
	}
}

// P17.1: heads of each kind that may stand between, alone, two, and eight of them, of each size.
func TestBetween(t *testing.T) {
	r := draw(18)
	lists := [][]extra{{}, {{0, 0}, {43, 0}, {60, 0}, {44, 0}, {60, 0}, {43, 0}, {60, 0}, {44, 0}}}
	for _, a := range []byte{0, 43, 60, 44} {
		for _, more := range []byte{0, 1, 2, 100} {
			lists = append(lists, []extra{{a, more}})
			for _, b := range []byte{43, 60, 44} {
				lists = append(lists, []extra{{a, more}, {b, 1}})
			}
		}
	}
	for _, f := range []api.Flow{tcp6, udp6} {
		for _, l := range lists {
			for _, size := range []int{0, 1, 2, 2048} {
				d := plain(f, 2, 3, nil).between(r, l...)
				d.sized(r, max(size, len(d.head)+len(d.seg)+size%2048))
				for _, w := range ways() {
					w.moves(t, "heads between", d, address(r, true), port(r))
				}
			}
		}
	}
}

// P17.1: a segment of UDP and IPv4 that has no sum has none then, whatever its sum would be.
func TestNoSum(t *testing.T) {
	r := draw(19)
	for range 500 {
		f := drawn(r)
		f.Src, f.Dst, f.Proto = address(r, false), address(r, false), 17
		d := plain(f, 0, 9, text(r.IntN(20), r.Uint64())).sumless()
		if r.IntN(2) == 0 {
			d.options(r, 5+r.IntN(11))
		}
		for _, w := range ways() {
			got := w.moves(t, "no sum", d, address(r, false), port(r))
			if n := number(got, len(d.head)+6); n != 0 {
				t.Errorf("%s: a sum of %x", w.name, n)
			}
		}
	}
}

// Rules, Ends; P17.1: packets of all kinds, held against the draft and against the document's words.
func TestDrawn(t *testing.T) {
	r := draw(20)
	for range 30000 {
		d := dressed(r, drawn(r))
		for _, w := range ways() {
			w.moves(t, "drawn", d, address(r, d.flow.Src.Six), port(r))
		}
	}
}
