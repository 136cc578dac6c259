package hash_test

import (
	"bytes"
	"encoding"
	"encoding/binary"
	"fmt"
	"hash/fnv"
	"testing"

	"stanchion/hash"
)

// told are numbers that were reckoned apart from the program, of seeds of 0, 1, 2^63 and 2^64 - 1.
var told = []struct {
	name string
	b    []byte
	want [4]uint64
}{
	{"no bytes", nil, [4]uint64{0xecba3df2c3383c52, 0xed688e1abebbd2d3, 0x7164dabf4dd74ff4, 0xb32945976cf18060}},
	{"0", []byte{0}, [4]uint64{0x9091d60726574ae6, 0x34e9f27a2a0e313f, 0x153c72d42481988f, 0xce7d789f0f0fe8c4}},
	{"1", []byte{1}, [4]uint64{0x34e9f27a2a0e313f, 0x9091d60726574ae6, 0xb9948f46acb08fa1, 0x43ff87442135d6ba}},
	{"127", []byte{127}, [4]uint64{0xa6b17167919e709b, 0x23085c7891e515a7, 0x2b5c0e349768cf32, 0xbf0f91b54c8c6614}},
	{"128", []byte{128}, [4]uint64{0x1fea4f38c43951f9, 0xb951f373d266fa3b, 0xa494ec05d9860067, 0x7f5919e34ffdd0fa}},
	{"255", []byte{255}, [4]uint64{0xaf9baf0b40b2142d, 0x7da2720914763d1f, 0x34464bd7cd5ce643, 0x8cdca745fb3f24ec}},
	{"0 0", []byte{0, 0}, [4]uint64{0x9bf1ace3400183e7, 0x7058735b668a95f6, 0x17471016465add9d, 0xd9f5b421ba0bb78e}},
	{"255 255", []byte{255, 255}, [4]uint64{0xf9ae6943bba48ec1, 0xcb0963cad71435c0, 0x7503cc773df25c5b, 0x40fcb1cf704c9c8b}},
	{"0 1", []byte{0, 1}, [4]uint64{0x0ddb280990b15d21, 0x4aa0d92ae49a6af1, 0x89308b3c92c48cbb, 0x9a587923474247bc}},
	{"1 0", []byte{1, 0}, [4]uint64{0x7058735b668a95f6, 0x9bf1ace3400183e7, 0xebadd68eeb70471c, 0x06e78651783d214b}},
	{"127 128", []byte{127, 128}, [4]uint64{0xeed4bf55434c833f, 0xf70257251dae8c42, 0x6a2a22884133cdd1, 0x687bc893e7b8d0d4}},
	{"128 127", []byte{128, 127}, [4]uint64{0x8efc7aac55c08f91, 0x9dae13e8d88452f6, 0x0a51dddf57965c28, 0x1f8dbe5dd0bf73fd}},
	{"a", []byte("a"), [4]uint64{0xed8170de1919a24d, 0xab41e0ad57b1d6d3, 0x722c0dab16cf1cf7, 0xfb7c51e9e905b14c}},
	{"ab", []byte("ab"), [4]uint64{0x574ca8a26194e644, 0x317ca508d174a0b0, 0xd2a20bd5e363b7ff, 0x6f46f2770083063a}},
	{"ba", []byte("ba"), [4]uint64{0xe56969f089e82f7b, 0xaca773d2c71f49ab, 0x60becd240b03fd11, 0x92647227e94002d8}},
	{"123456789", []byte("123456789"), [4]uint64{0x4ce725426999e841, 0x8681eba2bbcf3d87, 0xc83c8875ebf43eda, 0xd942857e28758279}},
	{"stanchion", []byte("stanchion"), [4]uint64{0x9ae728ede077d801, 0xfd0d7b1efec31510, 0x163c8c20e61a0a67, 0x812ad40fe3c9aa23}},
	{"each byte", eachByte(), [4]uint64{0xb2920418442a1390, 0x459cc3b3b88937fc, 0x373ca0e4c6fd41ee, 0x7e6d61cde7cae8eb}},
	{"64 bytes 0", make([]byte, 64), [4]uint64{0x608d334bd3b107fd, 0x1e616bb551801407, 0xdbe2967f4e06d567, 0x9c41009454e00567}},
	{"64 bytes 255", bytes.Repeat([]byte{255}, 64), [4]uint64{0x34902a72e4764048, 0xb9a81dc35afdd2b9, 0xafe58da669cc93a2, 0x060675a5b9d97ca5}},
	{"500 bytes", bytes.Repeat([]byte{0, 1, 127, 128, 255}, 100), [4]uint64{0x543e107344243906, 0xc0bd169623051565, 0xcf9373a6c9f288ec, 0x24a6efd5310d8d47}},
}

// eachByte is each byte once, from 0 on.
func eachByte() []byte {
	b := make([]byte, 256)
	for i := range b {
		b[i] = byte(i)
	}
	return b
}

// P18.1: some texts with seeds at the edges; what tests hold against is reckoned right, too.
func TestSum(t *testing.T) {
	for _, x := range told {
		for i, seed := range seeds()[:4] {
			wantSum(t, x.name, x.want[i], seed, x.b)
			if slow := slowSum(seed, x.b...); slow != x.want[i] {
				t.Errorf("%s, seed %#x: %#x by the document's words, not %#x", x.name, seed, slow, x.want[i])
			}
		}
	}
}

// P18.1: no parts at all, and a part without bytes, have the number of no bytes.
func TestSumOfNothing(t *testing.T) {
	for _, seed := range seeds() {
		want := slowSum(seed)
		wantSum(t, "no parts", want, seed)
		wantSum(t, "no list of parts", want, seed, nil...)
		wantSum(t, "an empty list of parts", want, seed, [][]byte{}...)
		wantSum(t, "a part that is none", want, seed, nil)
		wantSum(t, "an empty part", want, seed, []byte{})
		wantSum(t, "a part with spare room", want, seed, make([]byte, 0, 9))
	}
}

// P18.1: each byte alone, and each behind, ahead of and between others, with each seed.
func TestEachByte(t *testing.T) {
	for _, seed := range seeds() {
		for x := range 256 {
			x := byte(x)
			for _, b := range [][]byte{{x}, {0, x}, {x, 0}, {x, x}, {255, x}, {x, 255}, {0x5a, x, 0xc3}} {
				wantSum(t, fmt.Sprint(b), slowSum(seed, b...), seed, b)
			}
		}
	}
}

// P18.1: texts of all lengths up to more than a sector has, of all kinds, with each seed.
func TestEachLength(t *testing.T) {
	for n := range 300 {
		for kind, b := range [][]byte{text(n, uint64(n)), make([]byte, n), bytes.Repeat([]byte{255}, n), bytes.Repeat([]byte{127, 128}, n)[:n], bytes.Repeat([]byte{1}, n)} {
			for _, seed := range seeds() {
				want := slowSum(seed, b...)
				if got := hash.Sum(seed, b); got != want {
					t.Errorf("%d bytes of kind %d, seed %#x: Sum is %#x, not %#x", n, kind, seed, got, want)
				}
			}
		}
	}
}

// finish is what P18.1 does at the end.
func finish(n uint64) uint64 {
	n ^= n / 8589934592
	n *= 18397679294719823053
	return n ^ n/8589934592
}

// library is what the library makes of a number by b's bytes, ahead of the end; it keeps that number behind its own name for it.
func library(t *testing.T, n uint64, b []byte) uint64 {
	h := fnv.New64a()
	state, err := h.(encoding.BinaryMarshaler).MarshalBinary()
	if err != nil {
		t.Fatal(err)
	}
	state = binary.BigEndian.AppendUint64(state[:len(state)-8], n)
	if err := h.(encoding.BinaryUnmarshaler).UnmarshalBinary(state); err != nil {
		t.Fatal(err)
	}
	h.Write(b)
	return h.Sum64()
}

// P18.1: long texts, held against the library.
func TestLong(t *testing.T) {
	for _, n := range []int{1 << 11, 1<<16 - 1, 1 << 16, 1<<16 + 1, 1 << 20} {
		b := text(n, 7)
		for _, seed := range seeds() {
			want := finish(library(t, slowStart^seed, b))
			wantSum(t, "a long text", want, seed, b)
			wantSum(t, "a long text in parts", want, seed, b[:n/3], b[n/3:n-1], b[n-1:])
		}
	}
}

// P18.1: drawn texts with drawn seeds.
func TestDrawn(t *testing.T) {
	r := draw(1)
	for range 20000 {
		b, seed := text(r.IntN(24), r.Uint64()), r.Uint64()
		wantSum(t, "a drawn text", slowSum(seed, b...), seed, b)
	}
}

// P18.1: a seed that takes away what numbers begin with leaves 0, of no bytes and of bytes 0, however many; the first byte that is not 0 tells.
func TestNothingIsLeft(t *testing.T) {
	for n := range 40 {
		b := make([]byte, n)
		wantSum(t, "bytes 0", 0, slowStart, b)
		wantSum(t, "bytes 0 in parts", 0, slowStart, b[:n/2], nil, b[n/2:])
		wantSum(t, "a byte 1 behind them", 0x8482acf1dfd68faf, slowStart, b, []byte{0, 1})
	}
	for x := range 256 {
		wantSum(t, "what the first byte takes away", 0, slowStart^uint64(x), []byte{byte(x)})
	}
}

// P18.1: the seed and the first byte are put together, one as the other, before anything is multiplied.
func TestSeedAndFirstByte(t *testing.T) {
	for i, seed := range seeds() {
		b := text(9, uint64(i)+100)
		want := hash.Sum(seed, b)
		for x := range 256 {
			other := bytes.Clone(b)
			other[0] ^= byte(x)
			wantSum(t, "with another first byte", want, seed^uint64(x), other)
		}
	}
}
