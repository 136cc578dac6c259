package inet_test

import (
	"bytes"
	"fmt"
	"slices"
	"testing"

	"stanchion/inet"
)

// hex is the bytes that the digits of s say.
func hex(s string) []byte {
	var b []byte
	if _, err := fmt.Sscanf(s, "%x", &b); err != nil {
		panic(err)
	}
	return b
}

// P11.1: the sums of some bytes, which the document, and others who reckon such sums, tell, or which are reckoned by hand.
func TestSum(t *testing.T) {
	for _, x := range []struct {
		name string
		b    []byte
		want uint16
	}{
		{"the document's example", hex("4500001c"), 0xbae3},
		{"the example with its sum", hex("4500001cbae3"), 0},
		{"nil", nil, 0xffff},
		{"no bytes", []byte{}, 0xffff},
		{"one byte 0", []byte{0}, 0xffff},
		{"one byte 1", []byte{1}, 0xfeff},
		{"one byte 255", []byte{255}, 0x00ff},
		{"two bytes", []byte{1, 2}, 0xfefd},
		{"three bytes", []byte{1, 2, 3}, 0xfbfd},
		{"four bytes", []byte{1, 2, 3, 4}, 0xfbf9},
		{"a number of bytes 255", []byte{255, 255}, 0},
		{"three bytes 255", []byte{255, 255, 255}, 0x00ff},
		{"RFC 1071's bytes", hex("0001f203f4f5f6f7"), 0x220d},
		{"a head of IPv4", hex("450000730000400040110000c0a80001c0a800c7"), 0xb861},
		{"that head with its sum", hex("45000073000040004011b861c0a80001c0a800c7"), 0},
		{"text", []byte("stanchion"), rest([]byte("stanchion\x00"))},
	} {
		wantSum(t, x.name, x.want, x.b)
	}
}

// times is how often what is above 16 bits of b's numbers, added, is added below, till nothing is above.
func times(b []byte) int {
	n := 0
	for _, x := range numbers(b) {
		n += int(x)
	}
	k := 0
	for n > 0xffff {
		n = n>>16 + n%(1<<16)
		k++
	}
	return k
}

// P11.1: what is above 16 bits is added below: not at all, once, twice, three times, as often as there is any.
func TestCarry(t *testing.T) {
	many := func(n int, behind ...byte) []byte {
		return append(bytes.Repeat([]byte{255}, 2*n), behind...)
	}
	for _, x := range []struct {
		name  string
		b     []byte
		times int
		want  uint16
	}{
		{"0fffe", hex("8000" + "7ffe"), 0, 0x0001},
		{"0ffff", hex("8000" + "7fff"), 0, 0x0000},
		{"10000", hex("8000" + "8000"), 1, 0xfffe},
		{"10001", hex("8001" + "8000"), 1, 0xfffd},
		{"10000, by the lower bytes' carry", hex("ff80" + "0080"), 1, 0xfffe},
		{"1fffe", hex("ffff" + "ffff"), 1, 0x0000},
		{"1ffff", hex("ffff" + "ffff" + "0001"), 2, 0xfffe},
		{"2fffd", hex("ffff" + "ffff" + "ffff"), 1, 0x0000},
		{"2fffe", hex("ffff" + "ffff" + "ffff" + "0001"), 2, 0xfffe},
		{"2ffff", hex("ffff" + "ffff" + "ffff" + "0002"), 2, 0xfffd},
		{"ffff0000", many(65536), 1, 0x0000},
		{"ffff0001", many(65536, 0, 1), 2, 0xfffe},
		{"ffffffff", many(65537), 2, 0x0000},
		{"100000000, more than 32 bits", many(65537, 0, 1), 2, 0xfffe},
		{"10000fffe", many(65538), 2, 0x0000},
		{"10000ffff", many(65538, 0, 1), 3, 0xfffe},
		{"100010000", many(65538, 0, 2), 2, 0xfffd},
		{"1fffeffff", many(131073), 2, 0x0000},
		{"1ffff0001", many(131073, 0, 2), 2, 0xfffd},
		{"1ffffffff", many(131074, 0, 1), 3, 0xfffe},
	} {
		wantSum(t, x.name, x.want, x.b)
		if got := times(x.b); got != x.times {
			t.Errorf("%s: this is added below %d times, not %d", x.name, got, x.times)
		}
		if slow := slowSum(x.b); slow != x.want {
			t.Errorf("%s: %04x by the document's words", x.name, slow)
		}
	}
}

// P11.1: each two numbers that add up to what is near a carry.
func TestCarryNear(t *testing.T) {
	for a := 0; a <= 0xffff; a += 257 {
		for _, total := range []int{0xfffe, 0xffff, 0x10000, 0x10001, 0x1fffd, 0x1fffe} {
			b := total - a
			if b < 0 || b > 0xffff {
				continue
			}
			want := total
			if want > 0xffff {
				want -= 0xffff
			}
			wantSum(t, fmt.Sprintf("%04x and %04x", a, b), uint16(0xffff-want), append(two(uint16(a)), two(uint16(b))...))
		}
	}
}

// P11.1: each number of two bytes alone, and each byte, of which a 0 stands behind.
func TestSumEachNumber(t *testing.T) {
	for n := range 1 << 16 {
		if got := inet.Sum(two(uint16(n))); got != uint16(0xffff-n) {
			t.Errorf("Sum of %04x is %04x", n, got)
		}
	}
	for x := range 256 {
		wantSum(t, fmt.Sprintf("byte %02x", x), uint16(0xffff-x*256), []byte{byte(x)})
		wantSum(t, fmt.Sprintf("byte %02x behind a number", x), slowSum([]byte{0xab, 0xcd, byte(x)}), []byte{0xab, 0xcd, byte(x)})
	}
}

// P11.1: bytes of all lengths up to more than a packet's, even and odd, reckoned in two other ways.
func TestSumEachLength(t *testing.T) {
	for n := range 2200 {
		for kind, b := range [][]byte{text(n, uint64(n)), make([]byte, n), bytes.Repeat([]byte{255}, n), bytes.Repeat([]byte{0, 255}, n)[:n], bytes.Repeat([]byte{255, 0}, n)[:n]} {
			what := fmt.Sprintf("%d bytes of kind %d", n, kind)
			wantSum(t, what, rest(b), b)
			if n <= 300 {
				wantSum(t, what+", as worded", slowSum(b), b)
			}
		}
	}
}

// P11.1: with an odd number of bytes a 0 stands behind, and it is at the end alone.
func TestOddIsAsWithANought(t *testing.T) {
	for n := 1; n < 200; n += 2 {
		b := text(n, uint64(n)+5000)
		want := inet.Sum(append(bytes.Clone(b), 0))
		wantSum(t, fmt.Sprintf("%d bytes", n), want, b)
		wantSum(t, fmt.Sprintf("%d bytes and a part 0", n), want, b, []byte{0})
	}
	if a, b := inet.Sum([]byte{1}), inet.Sum([]byte{0, 1}); a == b {
		t.Error("a byte counts alike at both places")
	}
}

// P11.1: bytes that are all 0 have the sum 65535 and are never Good; bytes that are all 255, as whole numbers, have the sum 0 and are.
func TestAllAlike(t *testing.T) {
	for _, n := range []int{1, 2, 3, 4, 5, 20, 21, 2048, 2049, 65535, 65536, 131071, 131072, 131073, 131074, 131076, 262144, 1<<20 + 1, 1 << 22} {
		zero, full := make([]byte, n), bytes.Repeat([]byte{255}, n)
		wantSum(t, fmt.Sprintf("%d bytes 0", n), 0xffff, zero)
		want := uint16(0)
		if n%2 == 1 {
			// The last number is ff00.
			want = 0x00ff
		}
		wantSum(t, fmt.Sprintf("%d bytes 255", n), want, full)
	}
}

// P11.1: so many bytes that what is above 16 bits is itself of many bits, and of more than 16.
func TestSumLong(t *testing.T) {
	for i, n := range []int{1 << 16, 1<<17 - 1, 1 << 17, 1<<17 + 1, 1<<18 + 3, 1 << 20, 1<<22 + 5} {
		for kind, b := range [][]byte{text(n, uint64(i)+70), bytes.Repeat([]byte{255, 254}, n/2+1)[:n], bytes.Repeat([]byte{128, 1}, n/2+1)[:n]} {
			what := fmt.Sprintf("%d bytes of kind %d", n, kind)
			wantSum(t, what, rest(b), b)
			wantSum(t, what+" in parts", rest(b), b[:n/3], b[n/3:n-1], b[n-1:])
		}
	}
}

// P11.1: no parts at all, and parts that are empty, have the sum of no bytes, and are not Good.
func TestNoBytes(t *testing.T) {
	wantSum(t, "no parts", 0xffff)
	for _, x := range []struct {
		name  string
		parts [][]byte
	}{
		{"a list of none", [][]byte{}},
		{"a part of nil", [][]byte{nil}},
		{"an empty part", [][]byte{{}}},
		{"many of both", [][]byte{{}, nil, {}, {}, nil}},
	} {
		wantSum(t, x.name, 0xffff, x.parts...)
	}
}

// P11.1: empty parts count for nothing, at odd places too.
func TestEmptyPartsBetween(t *testing.T) {
	for n := range 24 {
		b := text(n, uint64(n)+300)
		want := slowSum(b)
		wantSum(t, "ahead", want, nil, b)
		wantSum(t, "behind", want, b, []byte{})
		for at := range n + 1 {
			what := fmt.Sprintf("%d bytes, cut at %d", n, at)
			wantSum(t, what+", nil between", want, b[:at], nil, b[at:])
			wantSum(t, what+", empty ones everywhere", want, []byte{}, b[:at], []byte{}, nil, b[at:], nil)
		}
	}
}

// P11.1: one part, cut in every way: each of the places between its bytes is a cut, or not.
func TestCutInEveryWay(t *testing.T) {
	for n := 1; n <= 13; n++ {
		for kind, b := range [][]byte{text(n, uint64(n)+400), bytes.Repeat([]byte{255}, n), bytes.Repeat([]byte{0, 255}, n)[:n], bytes.Repeat([]byte{128, 127}, n)[:n]} {
			want := slowSum(b)
			for cuts := range 1 << (n - 1) {
				var parts [][]byte
				from := 0
				for at := 1; at < n; at++ {
					if cuts>>(at-1)&1 == 1 {
						parts = append(parts, b[from:at])
						from = at
					}
				}
				parts = append(parts, b[from:])
				if got := inet.Sum(parts...); got != want {
					t.Fatalf("%d bytes of kind %d, as %x: Sum is %04x, not %04x", n, kind, parts, got, want)
				}
				if got := inet.Good(parts...); got != (want == 0) {
					t.Fatalf("%d bytes of kind %d, as %x: Good is %v", n, kind, parts, got)
				}
			}
		}
	}
}

// P11.1: longer bytes, cut at each two places, and into parts of one number of bytes each.
func TestCutAnywhere(t *testing.T) {
	b := text(121, 77)
	want := rest(b)
	for i := range len(b) + 1 {
		for j := i; j <= len(b); j++ {
			if got := inet.Sum(b[:i], b[i:j], b[j:]); got != want {
				t.Errorf("cut at %d and %d: Sum is %04x, not %04x", i, j, got, want)
			}
		}
	}
	long := text(4097, 78)
	want = rest(long)
	for _, size := range []int{1, 2, 3, 5, 7, 8, 255, 256, 257, 4096, 4097} {
		parts := slices.Collect(slices.Chunk(long, size))
		wantSum(t, fmt.Sprintf("parts of %d", size), want, parts...)
	}
}

// P11.1: the parts are taken in their order: that tells, where a byte comes to another place.
func TestPartsInOrder(t *testing.T) {
	a, b := []byte{1}, []byte{2, 3}
	wantSum(t, "a, b", slowSum([]byte{1, 2, 3}), a, b)
	wantSum(t, "b, a", slowSum([]byte{2, 3, 1}), b, a)
	if inet.Sum(a, b) == inet.Sum(b, a) {
		t.Error("both orders have one sum")
	}
	wantSum(t, "one part thrice", slowSum([]byte{1, 1, 1}), a, a, a)
}

// P11.1: Good is whether the sum is 0, and nothing else.
func TestGoodIsSumOfNought(t *testing.T) {
	r := draw(8)
	for range 20000 {
		b := text(r.IntN(40), r.Uint64())
		if r.IntN(2) == 0 && len(b) >= 2 {
			b = with(b, 0, 0)
			b = with(b, 0, slowSum(b))
		}
		cut := r.IntN(len(b) + 1)
		wantSum(t, fmt.Sprintf("%x, cut at %d", b, cut), slowSum(b), b[:cut], b[cut:])
	}
}

// P11.3: bytes with their Sum in them, at each even place, are Good, whole and cut anywhere.
func TestOwnSumIsGood(t *testing.T) {
	for n := 2; n <= 66; n++ {
		for kind, b := range [][]byte{text(n, uint64(n)+900), make([]byte, n), bytes.Repeat([]byte{255}, n)} {
			for at := 0; at+2 <= n; at += 2 {
				b := with(b, at, 0)
				b = with(b, at, inet.Sum(b))
				if !inet.Good(b) {
					t.Errorf("%d bytes of kind %d with their sum at %d are not Good", n, kind, at)
				}
				for cut := range n + 1 {
					if !inet.Good(b[:cut], b[cut:]) {
						t.Errorf("%d bytes of kind %d with their sum at %d, cut at %d, are not Good", n, kind, at, cut)
					}
				}
			}
		}
	}
}

// P11.3: the sum may lie in a part of its own, as that of a head that stands in no packet does.
func TestOwnSumAsAPart(t *testing.T) {
	for n := 0; n <= 40; n += 2 {
		b := text(n, uint64(n)+950)
		sum := two(inet.Sum(b))
		if !inet.Good(b, sum) || !inet.Good(sum, b) || !inet.Good(sum[:1], sum[1:], b) {
			t.Errorf("%x with the sum %x is not Good", b, sum)
		}
	}
}

// P11.1: Good bytes with any one bit turned are not Good: what a bit counts for is no multiple of 65535.
func TestOneBitTurned(t *testing.T) {
	for n := 2; n <= 45; n++ {
		for kind, b := range [][]byte{text(n, uint64(n)+1000), make([]byte, n), bytes.Repeat([]byte{255}, n)} {
			for at := 0; at+2 <= n; at += 2 {
				b := with(b, at, 0)
				b = with(b, at, inet.Sum(b))
				for bit := range 8 * n {
					b[bit/8] ^= 1 << (bit % 8)
					if inet.Good(b) {
						t.Errorf("%d bytes of kind %d with their sum at %d are Good with bit %d turned", n, kind, at, bit)
					}
					b[bit/8] ^= 1 << (bit % 8)
				}
				if !inet.Good(b) {
					t.Errorf("%d bytes of kind %d with their sum at %d are not Good again", n, kind, at)
				}
			}
		}
	}
}
