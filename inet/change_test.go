package inet_test

import (
	"bytes"
	"testing"

	"stanchion/inet"
)

// edges are the numbers at which a carry begins or ends.
var edges = []uint16{0, 1, 2, 0x00ff, 0x0100, 0x7fff, 0x8000, 0x8001, 0xff00, 0xfffd, 0xfffe, 0xffff}

// P11.2: some changes that others tell, or that are reckoned by hand.
func TestChange(t *testing.T) {
	for _, x := range []struct {
		want, sum  uint16
		old, young string
	}{
		{0x0000, 0xdd2f, "5555", "3285"}, // RFC 1624's
		{0xbae2, 0xbae3, "001c", "001d"},
		{0xbae4, 0xbae3, "001c", "001b"},
		{0xb961, 0xb861, "4011", "3f11"}, // one hop less
		{0xbae3, 0xbae3, "4500001c", "001c4500"},
		{0xfeff, 0x0000, "0001", "0101"}, // 0 turned is 65535, which is as none
		{0xfeff, 0xffff, "0001", "0101"},
		{0x0000, 0x0001, "0000", "0001"},
		{0xfffe, 0x0000, "0000", "0001"},
		{0x0001, 0x0000, "0001", "0000"},
		{0x0001, 0xffff, "0001", "0000"},
		{0x0000, 0xfffe, "0001", "0000"}, // nothing is left: the sum is 0, where that of bytes 0 is ffff
	} {
		wantChange(t, x.want, x.sum, hex(x.old), hex(x.young))
		if slow := slowChange(x.sum, hex(x.old), hex(x.young)); slow != x.want {
			t.Errorf("%04x of %s and %s: %04x by the document's words", x.sum, x.old, x.young, slow)
		}
	}
}

// P11.2: where nothing is changed the sum stays, but that ffff becomes 0, as the words have it: 65535 is added to it, turned, of each number.
func TestNothingIsChanged(t *testing.T) {
	for sum := range 1 << 16 {
		want := uint16(sum)
		if want == 0xffff {
			want = 0
		}
		for _, b := range [][]byte{{0, 0}, {255, 255}, {0x12, 0x34}, {0, 0, 0, 0}, {1, 2, 3, 4, 255, 255}} {
			wantChange(t, want, uint16(sum), b, bytes.Clone(b))
		}
	}
}

// P11.2: of the sum ffff, old bytes 255 and young bytes 0 there is nothing to add, so the sum stays ffff; anything else makes it another one.
func TestNothingToAdd(t *testing.T) {
	for n := 2; n <= 40; n += 2 {
		zero, full := make([]byte, n), bytes.Repeat([]byte{255}, n)
		wantChange(t, 0xffff, 0xffff, full, zero)
		wantChange(t, 0x0000, 0x0000, full, zero)
		wantChange(t, 0x0000, 0xffff, zero, full)
		wantChange(t, 0x0000, 0x0000, zero, full)
		for i := range n {
			full[i] = 254
			wantChange(t, slowChange(0xffff, full, zero), 0xffff, full, zero)
			full[i] = 255
		}
	}
}

// P11.2: each sum with numbers at the edges in old and young.
func TestEachSum(t *testing.T) {
	for _, old := range edges {
		for _, young := range edges {
			for sum := 0; sum < 1<<16; sum += 5 {
				n := 0xffff - sum + 0xffff - int(old) + int(young)
				for n > 0xffff {
					n -= 0xffff
				}
				if got := inet.Change(uint16(sum), two(old), two(young)); got != uint16(0xffff-n) {
					t.Errorf("Change(%04x, %04x, %04x) is %04x, not %04x", sum, old, young, got, 0xffff-n)
				}
			}
		}
	}
}

// P11.2: each number as old, and as young, with sums and others at the edges.
func TestEachNumber(t *testing.T) {
	for _, sum := range edges {
		for _, other := range edges {
			for n := 0; n < 1<<16; n += 7 {
				a, b := two(uint16(n)), two(other)
				wantChange(t, slowOne(sum, uint16(n), other), sum, a, b)
				wantChange(t, slowOne(sum, other, uint16(n)), sum, b, a)
			}
		}
	}
}

// slowOne is the changed sum of one number, by division.
func slowOne(sum, old, young uint16) uint16 {
	n := 0xffff - int(sum) + 0xffff - int(old) + int(young)
	if n == 0 {
		return 0xffff
	}
	return uint16(0xffff - ((n-1)%0xffff + 1))
}

// P11.2: many numbers, of all kinds, with sums of all kinds, held against the document's words.
func TestManyNumbers(t *testing.T) {
	r := draw(21)
	kinds := func(n int) []byte {
		switch r.IntN(4) {
		case 0:
			return make([]byte, n)
		case 1:
			return bytes.Repeat([]byte{255}, n)
		default:
			return text(n, r.Uint64())
		}
	}
	for range 40000 {
		n := 2 * r.IntN(20)
		sum := uint16(r.Uint32())
		if r.IntN(3) == 0 {
			sum = edges[r.IntN(len(edges))]
		}
		old, young := kinds(n), kinds(n)
		wantChange(t, slowChange(sum, old, young), sum, old, young)
	}
}

// P11.2: so many numbers that what is above 16 bits has more than 16 bits.
func TestChangeLong(t *testing.T) {
	for i, n := range []int{2048, 1<<17 + 2, 1<<18 + 6} {
		a, b := text(n, uint64(i)+40), text(n, uint64(i)+50)
		zero, full := make([]byte, n), bytes.Repeat([]byte{255}, n)
		for _, sum := range []uint16{0, 1, 0x8000, 0xfffe, 0xffff} {
			for k, l := range [][2][]byte{{a, b}, {b, a}, {a, a}, {zero, a}, {a, zero}, {full, a}, {a, full}, {zero, full}, {full, zero}, {zero, zero}, {full, full}} {
				if got, want := inet.Change(sum, l[0], l[1]), slowChange(sum, l[0], l[1]); got != want {
					t.Errorf("%d bytes of kind %d, sum %04x: Change is %04x, not %04x", n, k, sum, got, want)
				}
			}
		}
	}
}

// P11.2: sum, if old and young have unlike lengths, or an odd one, or there is none.
func TestSumStays(t *testing.T) {
	full := bytes.Repeat([]byte{255, 1, 128, 77, 3}, 10)
	for _, sum := range append([]uint16{0x1234, 0xbae3}, edges...) {
		for a := range 14 {
			for b := range 14 {
				if a == b && a%2 == 0 && a > 0 {
					continue
				}
				wantChange(t, sum, sum, full[:a], full[20:20+b])
				wantChange(t, sum, sum, make([]byte, a), full[20:20+b])
				wantChange(t, sum, sum, full[:a], make([]byte, b))
			}
		}
		for _, none := range [][]byte{nil, {}} {
			wantChange(t, sum, sum, none, nil)
			wantChange(t, sum, sum, none, []byte{})
			for _, some := range []int{1, 2, 3, 4} {
				wantChange(t, sum, sum, none, full[:some])
				wantChange(t, sum, sum, full[:some], none)
			}
		}
	}
}

// wantChanged holds b, Good with its sum at at, changed by young from place on, against the Sum newly reckoned; it tells the changed bytes.
func wantChanged(t *testing.T, b []byte, at, place int, young []byte) []byte {
	t.Helper()
	sum := uint16(b[at])<<8 | uint16(b[at+1])
	after := with(put(b, place, young), at, 0)
	changed := inet.Change(sum, b[place:place+len(young)], young)
	if bytes.Equal(after, make([]byte, len(after))) {
		return with(after, at, slowSum(after))
	}
	if want := slowSum(after); changed != want {
		t.Errorf("%x, sum at %d, %x from %d on: Change is %04x, the sum %04x", b, at, young, place, changed, want)
	}
	after = with(after, at, changed)
	if !inet.Good(after) {
		t.Errorf("%x, sum at %d, %x from %d on: %x is not Good", b, at, young, place, after)
	}
	return after
}

// P11.4: bytes that are Good stay Good, with the sum at each even place and each change at each other one, old and young of 0 and of 255 too.
func TestChangedIsGood(t *testing.T) {
	for _, n := range []int{4, 6, 7, 8, 11, 20} {
		for kind, b := range [][]byte{text(n, uint64(n)+60), make([]byte, n), bytes.Repeat([]byte{255}, n)} {
			for at := 0; at+2 <= n; at += 2 {
				b := with(b, at, 0)
				b = with(b, at, slowSum(b))
				for place := 0; place < n; place += 2 {
					for size := 2; place+size <= n; size += 2 {
						if place < at+2 && at < place+size {
							continue
						}
						for _, young := range [][]byte{make([]byte, size), bytes.Repeat([]byte{255}, size), text(size, uint64(kind*1000+place)), bytes.Repeat([]byte{0, 255}, size)[:size], b[place : place+size]} {
							wantChanged(t, b, at, place, young)
						}
					}
				}
			}
		}
	}
}

// P11.4: old and young of 0, of 255 and of what lies beside these in each byte, one by one.
func TestChangedEachByte(t *testing.T) {
	b := text(24, 61)
	b = with(b, 10, 0)
	for place := range 24 {
		if place == 10 || place == 11 {
			continue
		}
		for _, old := range []byte{0, 1, 127, 128, 254, 255} {
			for _, young := range []byte{0, 1, 127, 128, 254, 255} {
				from := put(b, place, []byte{old})
				from = with(from, 10, slowSum(from))
				even := place &^ 1
				to := put(from, place, []byte{young})
				wantChanged(t, from, 10, even, to[even:even+2])
			}
		}
	}
}

// P11.4: bytes whose sum is 0 may say 65535 instead, and are Good with either; they stay so.
func TestBothNoughts(t *testing.T) {
	r := draw(62)
	for range 5000 {
		b := with(text(12, r.Uint64()), 4, 0)
		copy(b[8:], two(0))
		copy(b[8:], two(slowSum(b)))
		for _, sum := range []uint16{0, 0xffff} {
			b := with(b, 4, sum)
			if !inet.Good(b) {
				t.Fatalf("%x is not Good", b)
			}
			young := text(4, r.Uint64())
			after := put(b, 0, young)
			after = with(after, 4, inet.Change(sum, b[:4], young))
			if !inet.Good(after) {
				t.Errorf("%x becomes %x, which is not Good", b, after)
			}
		}
	}
}

// P11.2, P11.4: where all but the sum are 0 then, the words let Change tell 0, and the bytes are not Good: their Sum is 65535. From there on a change says what it said.
func TestAllNoughtButTheSum(t *testing.T) {
	for n := 2; n <= 20; n += 2 {
		zero := make([]byte, n)
		for seed := range uint64(50) {
			b := text(n, seed+2000)
			sum := slowSum(b)
			wantChange(t, 0, sum, b, zero)
			wantSum(t, "bytes 0 with a sum of 0", 0xffff, []byte{0, 0}, zero)
			wantSum(t, "bytes 0 with their own sum", 0, []byte{255, 255}, zero)
			for _, from := range []uint16{0, 0xffff} {
				back := inet.Change(from, zero, b)
				if back != sum || !inet.Good(two(back), b) {
					t.Errorf("from bytes 0 with the sum %04x to %x: %04x, not %04x", from, b, back, sum)
				}
			}
		}
	}
	wantChange(t, 0, 0xffff, []byte{0, 0}, []byte{0, 0})
}

// P11.4: chains of many changes, at any places, of any sizes: the sum is that of the bytes newly reckoned all along.
func TestChains(t *testing.T) {
	r := draw(63)
	for _, n := range []int{4, 5, 20, 40, 61} {
		b := with(text(n, uint64(n)+64), 2, 0)
		b = with(b, 2, slowSum(b))
		for range 3000 {
			place := 2 * r.IntN(n/2)
			size := 2 * (1 + r.IntN((n-place)/2))
			if place == 2 {
				continue
			}
			if place == 0 {
				size = 2
			}
			young := text(size, r.Uint64())
			switch r.IntN(8) {
			case 0:
				young = make([]byte, size)
			case 1:
				young = bytes.Repeat([]byte{255}, size)
			}
			b = wantChanged(t, b, 2, place, young)
		}
	}
}

// P11.2: a chain of changes is one change of all its places, and a change that is taken back leaves the sum, but 65535, which comes back as 0.
func TestThereAndBack(t *testing.T) {
	r := draw(65)
	for i := range 20000 {
		n := 2 * (1 + r.IntN(10))
		old, young := text(n, r.Uint64()), text(n, r.Uint64())
		sum := uint16(r.Uint32())
		if i%5 == 0 {
			sum = edges[r.IntN(len(edges))]
		}
		want := inet.Change(sum, old, young)
		step := sum
		for k := 0; k < n; k += 2 {
			step = inet.Change(step, old[k:k+2], young[k:k+2])
		}
		if step != want {
			t.Errorf("Change(%04x, %x, %x) is %04x, number by number %04x", sum, old, young, want, step)
		}
		back := sum
		if back == 0xffff {
			back = 0
		}
		wantChange(t, back, want, young, old)
	}
}
