package num_test

import (
	"bytes"
	"math"
	"slices"
	"testing"

	"stanchion/num"
)

// wrongSizes are sizes that no number has.
var wrongSizes = []int{math.MinInt, -8, -1, 0, 9, 16, math.MaxInt}

// numbers have their highest bit in each byte that a number may have.
var numbers = []uint64{
	0, 1, 0x7f, 0x80, 0xff, 0x100, 258, 0xffff, 0x1_0000, 0x01_02_03, 0xffff_ffff, 0x1_0000_0000,
	0x01_02_03_04_05, 0x01_02_03_04_05_06, 0x01_02_03_04_05_06_07, 0x01_02_03_04_05_06_07_08,
	0xf0_e0_d0_c0_b0_a0_90_80, 1 << 63, math.MaxUint64 - 1, math.MaxUint64,
}

// P1.1: b, and behind it n's lowest size bytes, the highest first.
func TestPut(t *testing.T) {
	for _, x := range []struct {
		name string
		b    []byte
		n    uint64
		size int
		want []byte
	}{
		{"the document's example", nil, 258, 2, []byte{1, 2}},
		{"behind no bytes", []byte{}, 258, 2, []byte{1, 2}},
		{"behind others", []byte{9, 8}, 0x0a0b0c, 3, []byte{9, 8, 0x0a, 0x0b, 0x0c}},
		{"noughts ahead", []byte{7}, 5, 4, []byte{7, 0, 0, 0, 5}},
		{"one byte", nil, 0xab, 1, []byte{0xab}},
		{"more bytes than size", []byte{7}, 0x1234_5678, 2, []byte{7, 0x56, 0x78}},
		{"the lowest byte only", nil, 0xff00, 1, []byte{0}},
		{"size 8", nil, 0x0102030405060708, 8, []byte{1, 2, 3, 4, 5, 6, 7, 8}},
		{"all bits", nil, math.MaxUint64, 8, []byte{255, 255, 255, 255, 255, 255, 255, 255}},
	} {
		if got := num.Put(x.b, x.n, x.size); !bytes.Equal(got, x.want) {
			t.Errorf("%s: Put(%v, %#x, %d) is %v, not %v", x.name, x.b, x.n, x.size, got, x.want)
		}
	}
}

// P1.1: the bytes of each size are the last ones of those of size 8.
func TestPutAllSizes(t *testing.T) {
	for size := 1; size <= 8; size++ {
		for _, n := range numbers {
			want := []byte{42}
			for i := size - 1; i >= 0; i-- {
				want = append(want, byte(n>>(8*i)))
			}
			if got := num.Put([]byte{42}, n, size); !bytes.Equal(got, want) {
				t.Errorf("Put(42, %#x, %d) is %v, not %v", n, size, got, want)
			}
		}
	}
}

// P1.1: b alone, if size is not from 1 to 8.
func TestPutWrongSize(t *testing.T) {
	for _, size := range wrongSizes {
		for _, b := range [][]byte{nil, {}, {7}, {1, 2, 3}} {
			if got := num.Put(b, 258, size); !bytes.Equal(got, b) {
				t.Errorf("Put(%v, 258, %d) is %v", b, size, got)
			}
		}
	}
}

// P1.1: the number that b's size bytes from at on say, the highest first.
func TestGet(t *testing.T) {
	b := []byte{1, 2, 3, 4, 5, 6, 7, 8, 0xf9}
	for _, x := range []struct {
		at, size int
		want     uint64
	}{
		{0, 1, 1}, {0, 2, 0x0102}, {4, 3, 0x050607}, {2, 4, 0x03040506}, {0, 8, 0x0102030405060708},
		{1, 8, 0x02030405060708f9}, {8, 1, 0xf9}, {7, 2, 0x08f9}, {3, 6, 0x0405060708f9},
		{0, 5, 0x0102030405}, {0, 7, 0x01020304050607},
	} {
		if got, ok := num.Get(b, x.at, x.size); got != x.want || !ok {
			t.Errorf("Get(%d, %d) is %#x, %v, not %#x", x.at, x.size, got, ok, x.want)
		}
	}
	if got, ok := num.Get(bytes.Repeat([]byte{0xff}, 8), 0, 8); got != math.MaxUint64 || !ok {
		t.Errorf("Get of all ones is %#x, %v", got, ok)
	}
}

// P1.1: 0 and false, if size is not from 1 to 8.
func TestGetWrongSize(t *testing.T) {
	b := bytes.Repeat([]byte{5}, 20)
	for _, size := range wrongSizes {
		for _, at := range []int{math.MinInt, -1, 0, 3, 20, 21, math.MaxInt} {
			if got, ok := num.Get(b, at, size); got != 0 || ok {
				t.Errorf("Get(%d, %d) is %d, %v", at, size, got, ok)
			}
		}
	}
}

// P1.1: 0 and false, if b does not have all of these bytes; spare room is none of them.
func TestGetNotThere(t *testing.T) {
	room := bytes.Repeat([]byte{5}, 40)
	for size := 1; size <= 8; size++ {
		for _, n := range []int{0, 1, 7, 8, 9, 20} {
			b := room[:n]
			for _, at := range []int{math.MinInt, -size, -1, n - size + 1, n - 1, n, n + 1, math.MaxInt - size + 1, math.MaxInt} {
				there := at >= 0 && at <= n-size
				if got, ok := num.Get(b, at, size); ok != there || (got != 0) != there {
					t.Errorf("Get(%d bytes, %d, %d) is %d, %v", n, at, size, got, ok)
				}
			}
		}
	}
	if got, ok := num.Get(nil, 0, 1); got != 0 || ok {
		t.Errorf("Get(nil, 0, 1) is %d, %v", got, ok)
	}
}

// P1.2: all parts, one behind the other.
func TestBytes(t *testing.T) {
	for _, x := range []struct {
		name  string
		parts [][]byte
		want  []byte
	}{
		{"no parts", nil, nil},
		{"no parts in a list", [][]byte{}, nil},
		{"a part of nil", [][]byte{nil}, nil},
		{"empty parts only", [][]byte{nil, {}, nil}, nil},
		{"one part", [][]byte{{1, 2}}, []byte{1, 2}},
		{"two parts", [][]byte{{1, 2}, {3}}, []byte{1, 2, 3}},
		{"empty parts between", [][]byte{{}, {1}, nil, {2, 3}, {}, {4}, nil}, []byte{1, 2, 3, 4}},
		{"the order is theirs", [][]byte{{9}, {1}, {5, 0}}, []byte{9, 1, 5, 0}},
	} {
		if got := num.Bytes(x.parts...); !bytes.Equal(got, x.want) {
			t.Errorf("%s: Bytes is %v, not %v", x.name, got, x.want)
		}
	}
	if num.Bytes() != nil || num.Bytes(nil, []byte{}) != nil {
		t.Error("Bytes of nothing is a list")
	}
	same := []byte{1, 2}
	if got := num.Bytes(same, same, same[:1]); !bytes.Equal(got, []byte{1, 2, 1, 2, 1}) {
		t.Errorf("Bytes of one part again and again is %v", got)
	}
}

// P1.2: b's size bytes from at on.
func TestCut(t *testing.T) {
	b := []byte{1, 2, 3, 4, 5, 6, 7, 8, 9, 10}
	for at := 0; at <= len(b); at++ {
		for size := 0; size <= len(b)-at; size++ {
			got, ok := num.Cut(b, at, size)
			if !ok || !bytes.Equal(got, b[at:at+size]) {
				t.Errorf("Cut(%d, %d) is %v, %v", at, size, got, ok)
			}
		}
	}
	for _, none := range [][]byte{nil, {}} {
		if got, ok := num.Cut(none, 0, 0); len(got) != 0 || !ok {
			t.Errorf("Cut(none, 0, 0) is %v, %v", got, ok)
		}
	}
}

// P1.2: none and false, if b does not have all of these; spare room is none of them.
func TestCutNotThere(t *testing.T) {
	b := bytes.Repeat([]byte{5}, 40)[:10]
	for _, x := range []struct{ at, size int }{
		{-1, 0}, {-1, 1}, {-1, 11}, {math.MinInt, 0}, {math.MinInt, math.MinInt}, {math.MinInt, math.MaxInt},
		{0, -1}, {10, -1}, {3, math.MinInt}, {-1, -1}, {11, -1}, {math.MaxInt, math.MinInt},
		{0, 11}, {1, 10}, {9, 2}, {10, 1}, {0, 40}, {0, math.MaxInt}, {1, math.MaxInt}, {10, math.MaxInt},
		{11, 0}, {11, 1}, {40, 0}, {math.MaxInt, 0}, {math.MaxInt, 1}, {math.MaxInt, math.MaxInt},
	} {
		if got, ok := num.Cut(b, x.at, x.size); len(got) != 0 || ok {
			t.Errorf("Cut(%d, %d) is %v, %v", x.at, x.size, got, ok)
		}
	}
	for _, x := range []struct{ at, size int }{{0, 1}, {1, 0}, {-1, 0}, {0, -1}} {
		if got, ok := num.Cut(nil, x.at, x.size); len(got) != 0 || ok {
			t.Errorf("Cut(nil, %d, %d) is %v, %v", x.at, x.size, got, ok)
		}
	}
}

// P1.3: what was Put is got; modulo 256^size, if it has more bytes than size.
func TestThereAndBack(t *testing.T) {
	for size := 1; size <= 8; size++ {
		for _, n := range numbers {
			want := n
			if size < 8 {
				want = n % (1 << (8 * size))
			}
			for _, b := range [][]byte{nil, {1}, {1, 2, 3, 4, 5, 6, 7, 8, 9}} {
				put := num.Put(b, n, size)
				if got, ok := num.Get(put, len(b), size); got != want || !ok {
					t.Errorf("Get of Put(%v, %#x, %d) is %#x, %v, not %#x", b, n, size, got, ok, want)
				}
				if len(put) != len(b)+size || !bytes.Equal(put[:len(b)], b) {
					t.Errorf("Put(%v, %#x, %d) is %v", b, n, size, put)
				}
			}
		}
	}
}

// P1.3: numbers, put one behind the other, are got one behind the other, and are what Bytes and Cut make of their bytes.
func TestThereAndBackInARow(t *testing.T) {
	var row []byte
	var parts [][]byte
	for size := 1; size <= 8; size++ {
		row = num.Put(row, 0x1122334455667788, size)
		parts = append(parts, num.Put(nil, 0x1122334455667788, size))
	}
	if !bytes.Equal(row, num.Bytes(parts...)) {
		t.Errorf("a row is %v, its parts %v", row, parts)
	}
	at := 0
	for size := 1; size <= 8; size++ {
		if n, ok := num.Get(row, at, size); !ok || n != 0x1122334455667788&(math.MaxUint64>>(64-8*size)) {
			t.Errorf("the number of size %d is %#x, %v", size, n, ok)
		}
		if p, ok := num.Cut(row, at, size); !ok || !bytes.Equal(p, parts[size-1]) {
			t.Errorf("the part of size %d is %v, %v", size, p, ok)
		}
		at += size
	}
}

// answers are calls that answer a list, each of a b that has spare room.
var answers = []struct {
	name string
	call func(b []byte) []byte
}{
	{"Put", func(b []byte) []byte { return num.Put(b, 0x0102030405060708, 8) }},
	{"Put of one byte", func(b []byte) []byte { return num.Put(b, 1, 1) }},
	{"Put of size 0", func(b []byte) []byte { return num.Put(b, 1, 0) }},
	{"Put of size 9", func(b []byte) []byte { return num.Put(b, 1, 9) }},
	{"Bytes of one part", func(b []byte) []byte { return num.Bytes(b) }},
	{"Bytes, b first", func(b []byte) []byte { return num.Bytes(b, []byte{1, 2}) }},
	{"Bytes, b last", func(b []byte) []byte { return num.Bytes(nil, []byte{1, 2}, b) }},
	{"Bytes, b and empty parts", func(b []byte) []byte { return num.Bytes(nil, b, []byte{}) }},
	{"Bytes, b twice", func(b []byte) []byte { return num.Bytes(b, b) }},
	{"Cut of all", func(b []byte) []byte { p, _ := num.Cut(b, 0, len(b)); return p }},
	{"Cut of the middle", func(b []byte) []byte { p, _ := num.Cut(b, 1, len(b)-2); return p }},
	{"Cut of the end", func(b []byte) []byte { p, _ := num.Cut(b, 2, len(b)-2); return p }},
	{"Cut of nothing", func(b []byte) []byte { p, _ := num.Cut(b, 2, 0); return p }},
	{"Cut of nothing behind the end", func(b []byte) []byte { p, _ := num.Cut(b, len(b), 0); return p }},
}

// roomy is five bytes with spare room ahead of and behind them, and all of that.
func roomy() (b, all []byte) {
	all = bytes.Repeat([]byte{0xee}, 64)
	copy(all[8:], "\x01\x02\x03\x04\x05")
	return all[8:13], all
}

// Rules, Memory: no argument is changed, and no answer shares memory with one, the spare room of both included.
func TestMemory(t *testing.T) {
	for _, x := range answers {
		b, all := roomy()
		before := slices.Clone(all)
		got := x.call(b)
		if !bytes.Equal(all, before) {
			t.Errorf("%s: the argument, or what lies behind it, is changed", x.name)
		}
		told := slices.Clone(got)
		for i := range all {
			all[i] = 0x33
		}
		if !bytes.Equal(got, told) {
			t.Errorf("%s: the answer changes with the argument", x.name)
		}
		got = got[:cap(got)]
		for i := range got {
			got[i] = 0x44
		}
		if !bytes.Equal(all, bytes.Repeat([]byte{0x33}, len(all))) {
			t.Errorf("%s: the argument, or what lies behind it, changes with the answer", x.name)
		}
	}
}

// Rules, Memory: two answers to the same call are two lists.
func TestAnswersApart(t *testing.T) {
	for _, x := range answers {
		b, _ := roomy()
		first, second := x.call(b), x.call(b)
		told := slices.Clone(second)
		first = first[:cap(first)]
		for i := range first {
			first[i] ^= 0xff
		}
		if !bytes.Equal(second, told) {
			t.Errorf("%s: two answers share memory", x.name)
		}
	}
}

// Rules, Memory: Get and a Cut that tells false change nothing either.
func TestGetChangesNothing(t *testing.T) {
	b, all := roomy()
	before := slices.Clone(all)
	num.Get(b, 0, 4)
	num.Get(b, 3, 4)
	num.Cut(b, 3, 4)
	if !bytes.Equal(all, before) {
		t.Error("the argument, or what lies behind it, is changed")
	}
}

// Rules, Memory: the list of parts is as it was, its spare room included.
func TestPartsUnchanged(t *testing.T) {
	list := [][]byte{{1}, nil, {2, 3}, {4}, {5}}
	num.Bytes(list[:3]...)
	want := [][]byte{{1}, nil, {2, 3}, {4}, {5}}
	for i := range want {
		if !bytes.Equal(list[i], want[i]) {
			t.Errorf("part %d is %v, not %v", i, list[i], want[i])
		}
	}
}
