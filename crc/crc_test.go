package crc_test

import (
	"bytes"
	"hash/crc32"
	"slices"
	"strings"
	"testing"

	"stanchion/crc"
)

// castagnoli makes the library's sums those of the document, so that they can be held against each other.
var castagnoli = crc32.MakeTable(crc32.Castagnoli)

// text is n bytes that have no short rule and are the same in each run.
func text(n int, seed uint32) []byte {
	b := make([]byte, n)
	x := seed*2654435761 + 1
	for i := range b {
		x ^= x << 13
		x ^= x >> 17
		x ^= x << 5
		b[i] = byte(x >> 11)
	}
	return b
}

// counted is n bytes, of which each is step more than the one ahead of it.
func counted(n int, first, step byte) []byte {
	b := make([]byte, n)
	for i := range b {
		b[i] = first + byte(i)*step
	}
	return b
}

// P2.1: the sums of some texts, which the document, and others who reckon such sums, tell.
func TestSum(t *testing.T) {
	for _, x := range []struct {
		name string
		b    []byte
		want uint32
	}{
		{"the document's example", []byte("123456789"), 0xe3069283},
		{"nil", nil, 0},
		{"no bytes", []byte{}, 0},
		{"one byte 0", []byte{0}, 0x527d5351},
		{"two bytes 0", []byte{0, 0}, 0xf16177d2},
		{"one byte ff", []byte{0xff}, 0xff000000},
		{"four bytes ff", []byte{0xff, 0xff, 0xff, 0xff}, 0xffffffff},
		{"a", []byte("a"), 0xc1d04330},
		{"abc", []byte("abc"), 0x364b3fb7},
		{"32 bytes 0", make([]byte, 32), 0x8a9136aa},
		{"32 bytes ff", bytes.Repeat([]byte{0xff}, 32), 0x62a8ab43},
		{"32 bytes that rise", counted(32, 0, 1), 0x46dd794e},
		{"32 bytes that fall", counted(32, 31, 0xff), 0x113fdb5c},
	} {
		if got := crc.Sum(x.b); got != x.want {
			t.Errorf("%s: Sum is %#x, not %#x", x.name, got, x.want)
		}
	}
}

// slow is the sum, bit by bit, as the document words it, with the bits as a list: the lowest first.
func slow(b []byte) uint32 {
	var bits [32]bool
	for i := range bits {
		bits[i] = true
	}
	turned := uint32(0x82f63b78)
	for _, x := range b {
		for i := 0; i < 8; i++ {
			bits[i] = bits[i] != (x>>i&1 == 1)
		}
		for k := 0; k < 8; k++ {
			lowest := bits[0]
			copy(bits[:31], bits[1:])
			bits[31] = false
			for i := range bits {
				if lowest && turned>>i&1 == 1 {
					bits[i] = !bits[i]
				}
			}
		}
	}
	sum := uint32(0)
	for i := range bits {
		if !bits[i] {
			sum |= 1 << i
		}
	}
	return sum
}

// P2.1: each byte alone, and each behind and ahead of another one.
func TestSumEachByte(t *testing.T) {
	for x := 0; x < 256; x++ {
		for _, b := range [][]byte{{byte(x)}, {0, byte(x)}, {byte(x), 0}, {0x5a, byte(x), 0xc3}} {
			if got, want := crc.Sum(b), slow(b); got != want {
				t.Errorf("Sum(%v) is %#x, not %#x", b, got, want)
			}
		}
	}
}

// P2.1: texts of all lengths up to more than a sector has, reckoned in three ways.
func TestSumEachLength(t *testing.T) {
	for n := 0; n <= 600; n++ {
		for kind, b := range [][]byte{text(n, uint32(n)), make([]byte, n), bytes.Repeat([]byte{0xff}, n), counted(n, 1, 3)} {
			got := crc.Sum(b)
			if want := crc32.Checksum(b, castagnoli); got != want {
				t.Errorf("Sum of %d bytes of kind %d is %#x, not %#x", n, kind, got, want)
			}
			if want := slow(b); n <= 80 && got != want {
				t.Errorf("Sum of %d bytes of kind %d is %#x, not %#x as worded", n, kind, got, want)
			}
		}
	}
}

// P2.1: long texts, as one and in parts.
func TestSumLong(t *testing.T) {
	for _, n := range []int{1 << 12, 1<<16 - 1, 1 << 16, 1<<16 + 1, 1 << 20} {
		b := text(n, 7)
		want := crc32.Checksum(b, castagnoli)
		if got := crc.Sum(b); got != want {
			t.Errorf("Sum of %d bytes is %#x, not %#x", n, got, want)
		}
		if got := crc.Parts(b[:n/3], b[n/3:n-1], b[n-1:]); got != want {
			t.Errorf("Parts of %d bytes is %#x, not %#x", n, got, want)
		}
	}
}

// P2.1: no parts at all, and parts that are empty, have the sum of no bytes.
func TestPartsOfNothing(t *testing.T) {
	for _, x := range []struct {
		name  string
		parts [][]byte
	}{
		{"nil", nil},
		{"an empty list", [][]byte{}},
		{"a part of nil", [][]byte{nil}},
		{"an empty part", [][]byte{{}}},
		{"empty parts", [][]byte{{}, nil, {}, nil}},
	} {
		if got := crc.Parts(x.parts...); got != 0 {
			t.Errorf("%s: Parts is %#x", x.name, got)
		}
	}
	if got := crc.Parts(); got != 0 {
		t.Errorf("Parts of none is %#x", got)
	}
}

// P2.1: the sum of parts is that of all of them, one behind the other.
func TestParts(t *testing.T) {
	same := []byte("stanchion")
	for _, x := range []struct {
		name  string
		parts [][]byte
	}{
		{"one part", [][]byte{[]byte("123456789")}},
		{"two parts", [][]byte{[]byte("1234"), []byte("56789")}},
		{"empty parts between", [][]byte{nil, []byte("12"), {}, nil, []byte("3456789"), {}}},
		{"a byte each", [][]byte{{1}, {2}, {3}, {4}, {5}}},
		{"bytes 0 first", [][]byte{{0}, {0, 0}, {1}}},
		{"bytes 0 last", [][]byte{{1}, {0}, {0, 0}}},
		{"one part again and again", [][]byte{same, same, same[:3], same[2:]}},
		{"a part that has its own sum behind it", [][]byte{[]byte("123456789"), {0x83, 0x92, 0x06, 0xe3}}},
	} {
		all := bytes.Join(x.parts, nil)
		got := crc.Parts(x.parts...)
		if want := crc32.Checksum(all, castagnoli); got != want {
			t.Errorf("%s: Parts is %#x, not %#x", x.name, got, want)
		}
		if want := crc.Sum(all); got != want {
			t.Errorf("%s: Parts is %#x, but Sum is %#x", x.name, got, want)
		}
	}
}

// P2.1: the order of the parts tells, as that of the bytes does.
func TestPartsInOrder(t *testing.T) {
	a, b := []byte("abc"), []byte("xyz")
	if crc.Parts(a, b) != crc.Sum([]byte("abcxyz")) || crc.Parts(b, a) != crc.Sum([]byte("xyzabc")) {
		t.Error("Parts is not the sum of its parts in their order")
	}
	if crc.Parts(a, b) == crc.Parts(b, a) {
		t.Error("Parts in another order has the same sum")
	}
}

// P2.1: wherever a text is cut, once or twice, its parts have its sum.
func TestPartsCutAnywhere(t *testing.T) {
	for _, b := range [][]byte{[]byte("123456789"), text(70, 3), make([]byte, 40), bytes.Repeat([]byte{0xff}, 40)} {
		want := crc32.Checksum(b, castagnoli)
		for i := 0; i <= len(b); i++ {
			if got := crc.Parts(b[:i], b[i:]); got != want {
				t.Errorf("Parts of %d bytes, cut at %d, is %#x, not %#x", len(b), i, got, want)
			}
			for j := i; j <= len(b); j++ {
				if got := crc.Parts(b[:i], b[i:j], b[j:]); got != want {
					t.Errorf("Parts of %d bytes, cut at %d and %d, is %#x, not %#x", len(b), i, j, got, want)
				}
			}
		}
	}
}

// P2.1: many parts, each of the same number of bytes, and with empty ones between.
func TestPartsMany(t *testing.T) {
	b := text(3000, 5)
	want := crc32.Checksum(b, castagnoli)
	for _, size := range []int{1, 2, 3, 7, 8, 255, 256, 257, 2999, 3000, 3001} {
		var parts [][]byte
		for p := range slices.Chunk(b, size) {
			parts = append(parts, p, nil)
		}
		if got := crc.Parts(parts...); got != want {
			t.Errorf("Parts of %d bytes each is %#x, not %#x", size, got, want)
		}
	}
}

// P2.1: spare room behind the bytes is no part of them.
func TestSpareRoomDoesNotTell(t *testing.T) {
	room := text(64, 9)
	for n := 0; n <= len(room); n++ {
		want := crc.Sum(bytes.Clone(room[:n]))
		if got := crc.Sum(room[:n]); got != want {
			t.Errorf("Sum of %d bytes with spare room is %#x, not %#x", n, got, want)
		}
		if got := crc.Parts(room[:n:n], nil, room[n:n]); got != want {
			t.Errorf("Parts of %d bytes with spare room is %#x, not %#x", n, got, want)
		}
	}
}

// P2.1: a sum hangs on the bytes alone, not on the calls ahead of it.
func TestSameAgain(t *testing.T) {
	b := text(300, 1)
	want := crc.Sum(b)
	for i := range 50 {
		crc.Sum(text(i, 2))
		crc.Parts(text(i, 3), nil, b[:i])
		if got := crc.Sum(bytes.Clone(b)); got != want {
			t.Fatalf("call %d: Sum is %#x, not %#x", i, got, want)
		}
	}
}

// P2.2: all texts of one byte, and all of two, have sums of their own.
func TestShortTextsApart(t *testing.T) {
	one, two := map[uint32]int{}, map[uint32]int{}
	for x := 0; x < 1<<16; x++ {
		if x < 256 {
			one[crc.Sum([]byte{byte(x)})] = x
		}
		two[crc.Sum([]byte{byte(x >> 8), byte(x)})] = x
	}
	if len(one) != 256 || len(two) != 1<<16 {
		t.Errorf("%d sums of one byte, %d of two", len(one), len(two))
	}
}

// differ holds b's sum against that of b with other bytes from at on.
func differ(t *testing.T, b []byte, at int, by ...byte) {
	t.Helper()
	other := bytes.Clone(b)
	for i, x := range by {
		other[at+i] ^= x
	}
	if sum := crc.Sum(b); sum == crc.Sum(other) {
		t.Errorf("%d bytes, and others by %v from %d on, both have the sum %#x", len(b), by, at, sum)
	}
}

// P2.2: texts that differ in one byte, anywhere, by whatever.
func TestOneByte(t *testing.T) {
	for _, b := range [][]byte{{0}, text(2, 1), text(9, 2), text(64, 3), make([]byte, 33), text(256, 4)} {
		for at := range b {
			for by := 1; by < 256; by++ {
				differ(t, b, at, byte(by))
			}
		}
	}
}

// P2.2: texts that differ in two, three or four bytes in a row, at the beginning, in the middle, at the end.
func TestFewBytesInARow(t *testing.T) {
	for _, n := range []int{2, 3, 4, 5, 8, 31, 256} {
		b := text(n, uint32(n))
		for width := 2; width <= min(4, n); width++ {
			for at := 0; at+width <= n; at++ {
				for _, by := range []string{"\x01\x01\x01\x01", "\x80\x80\x80\x80", "\xff\xff\xff\xff", "\x01\x00\x00\x80", "\x80\x00\x00\x01", "\x78\x3b\xf6\x82", "\x82\xf6\x3b\x78", "\xf6\x3b\x78\x82"} {
					differ(t, b, at, []byte(by)[:width]...)
				}
				for k := range 20 {
					by := text(width, uint32(at*20+k))
					by[0] |= 1
					differ(t, b, at, by...)
				}
			}
		}
	}
}

// rank is how many of the numbers are not the exclusive or of some of the others.
func rank(list []uint32) int {
	var lead [32]uint32
	n := 0
	for _, x := range list {
		for bit := 31; bit >= 0 && x != 0; bit-- {
			if x>>bit&1 == 0 {
				continue
			}
			if lead[bit] == 0 {
				lead[bit] = x
				n++
				break
			}
			x ^= lead[bit]
		}
	}
	return n
}

// P2.2: how a sum changes with a bit hangs on the bit's place alone (TestBitsAddUp), so a difference goes unseen only if the changes of its bits undo each other: those of the bits of four bytes in a row never do.
func TestFourBytesAll(t *testing.T) {
	for _, n := range []int{1, 2, 3, 4, 5, 9, 64, 256, 300} {
		b := text(n, 11)
		sum := crc.Sum(b)
		width := min(4, n)
		for at := 0; at+width <= n; at++ {
			var changes []uint32
			for bit := range 8 * width {
				b[at+bit/8] ^= 1 << (bit % 8)
				changes = append(changes, sum^crc.Sum(b))
				b[at+bit/8] ^= 1 << (bit % 8)
			}
			if got := rank(changes); got != 8*width {
				t.Errorf("of %d bytes, those from %d on: some of the %d bits undo each other, %d do not", n, at, 8*width, got)
			}
		}
	}
}

// P2.2: of texts of one length, the changes of a sum add up, bit by bit: what TestFourBytesAll rests upon.
func TestBitsAddUp(t *testing.T) {
	for n := 0; n <= 300; n++ {
		a, b, c := text(n, 21), text(n, 22), text(n, 23)
		all := make([]byte, n)
		for i := range all {
			all[i] = a[i] ^ b[i] ^ c[i]
		}
		if got, want := crc.Sum(all), crc.Sum(a)^crc.Sum(b)^crc.Sum(c); got != want {
			t.Errorf("%d bytes: the sum of all is %#x, not %#x", n, got, want)
		}
	}
}

// P2.2: parts that differ in up to four bytes in a row, that lie in one part, or in two, have unlike sums.
func TestPartsDiffer(t *testing.T) {
	a := text(24, 31)
	for at := 0; at+4 <= len(a); at++ {
		b := bytes.Clone(a)
		for i := range 4 {
			b[at+i] ^= byte(0x11 * (i + 1))
		}
		for cut := 0; cut <= len(a); cut++ {
			if crc.Parts(a[:cut], a[cut:]) == crc.Parts(b[:cut], b[cut:]) {
				t.Errorf("other bytes from %d on, cut at %d: the same sum", at, cut)
			}
		}
	}
}

// Rules, Memory: neither the bytes, nor the list of parts, nor the spare room of both is changed.
func TestNothingChanged(t *testing.T) {
	all := text(80, 41)
	before := bytes.Clone(all)
	list := [][]byte{all[8:20], nil, all[20:20], all[24:60], all[60:70], {9}}
	heads := slices.Clone(list)
	crc.Sum(all[8:40])
	crc.Sum(all[:0])
	crc.Parts(list[:4]...)
	crc.Parts(list...)
	crc.Parts(list[:0]...)
	if !bytes.Equal(all, before) {
		t.Error("the bytes, or what lies behind them, are changed")
	}
	for i := range heads {
		if len(list[i]) != len(heads[i]) || cap(list[i]) != cap(heads[i]) || !bytes.Equal(list[i], heads[i]) {
			t.Errorf("part %d is %v, not %v", i, list[i], heads[i])
		}
		if len(list[i]) > 0 && &list[i][0] != &heads[i][0] {
			t.Errorf("part %d lies elsewhere", i)
		}
	}
}

// Rules, Memory: nothing that was handed in is kept: a sum told is that of the bytes as they are at the call.
func TestNothingKept(t *testing.T) {
	b := []byte(strings.Repeat("stanchion", 30))
	first := crc.Parts(b[:100], b[100:])
	b[50] ^= 1
	if got, want := crc.Parts(b[:100], b[100:]), crc32.Checksum(b, castagnoli); got != want || got == first {
		t.Errorf("of bytes that are other ones by now Parts is %#x, not %#x", got, want)
	}
	b[50] ^= 1
	if got := crc.Sum(b); got != first {
		t.Errorf("of bytes that are the first ones again Sum is %#x, not %#x", got, first)
	}
}
