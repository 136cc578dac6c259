package node_test

import (
	"bytes"
	"encoding/binary"
	"fmt"
	"math"
	"math/rand"
	"reflect"
	"slices"
	"sort"
	"strings"
	"testing"

	"stanchion/api"
	"stanchion/node"
)

// long is n bytes, each of them x.
func long(n int, x string) string {
	return strings.Repeat(x, n)
}

// leaf is the leaf of keys and their values, one behind the other.
func leaf(l ...string) api.Node {
	n := api.Node{Leaf: true}
	for i := 0; i < len(l); i += 2 {
		n.Keys = append(n.Keys, []byte(l[i]))
		n.Vals = append(n.Vals, []byte(l[i+1]))
	}
	return n
}

// inner is the node of these kids, and keys between them.
func inner(kids []int, keys ...string) api.Node {
	n := api.Node{Kids: kids}
	for _, key := range keys {
		n.Keys = append(n.Keys, []byte(key))
	}
	return n
}

// leafOf is a leaf of cells of these sizes, from 4 to 50 bytes each: the keys rise, and have all bytes but those that a value must take.
func leafOf(sizes ...int) api.Node {
	n := api.Node{Leaf: true}
	for i, size := range sizes {
		key := min(size-2, 24)
		n.Keys = append(n.Keys, risen(i, key))
		n.Vals = append(n.Vals, bytes.Repeat([]byte{byte(i)}, size-2-key))
	}
	return n
}

// innerOf is a node of cells of these sizes, from 5 to 27 bytes each.
func innerOf(sizes ...int) api.Node {
	n := api.Node{Kids: []int{1000}}
	for i, size := range sizes {
		n.Keys = append(n.Keys, risen(i, size-3))
		n.Kids = append(n.Kids, i)
	}
	return n
}

// risen is a key of so many bytes, at least 2, that is above that of any lower i.
func risen(i, size int) []byte {
	key := binary.BigEndian.AppendUint16(nil, uint16(i))
	return append(key, bytes.Repeat([]byte{'k'}, size-2)...)
}

// same is whether two nodes are, nil and empty lists alike.
func same(a, b api.Node) bool {
	return a.Leaf == b.Leaf && slices.EqualFunc(a.Keys, b.Keys, bytes.Equal) &&
		slices.EqualFunc(a.Vals, b.Vals, bytes.Equal) && slices.Equal(a.Kids, b.Kids)
}

// zero is whether n is the zero node.
func zero(n api.Node) bool {
	return reflect.DeepEqual(n, api.Node{})
}

// written is n's bytes by the words of P7.2, whether they may be or not.
func written(n api.Node) []byte {
	b := []byte{byte(len(n.Keys))}
	if !n.Leaf {
		b = binary.BigEndian.AppendUint16(b, uint16(n.Kids[0]))
	}
	for i, key := range n.Keys {
		b = append(append(b, byte(len(key))), key...)
		if n.Leaf {
			b = append(append(b, byte(len(n.Vals[i]))), n.Vals[i]...)
		} else {
			b = binary.BigEndian.AppendUint16(b, uint16(n.Kids[i+1]))
		}
	}
	return b
}

// parsed is the node that b says by the words of P7.1 and P7.2; false, if there is none.
func parsed(isLeaf bool, b []byte) (api.Node, bool) {
	short := len(b) > 232
	next := func(n int) []byte {
		if short || n > len(b) {
			short = true
			return make([]byte, n)
		}
		got := b[:n]
		b = b[n:]
		return got
	}
	text := func(least int) []byte {
		size := int(next(1)[0])
		if size < least || size > 24 {
			short = true
		}
		return next(size)
	}
	kid := func() int {
		no := int(binary.BigEndian.Uint16(next(2)))
		if no > 1599 {
			short = true
		}
		return no
	}
	n := api.Node{Leaf: isLeaf}
	count := int(next(1)[0])
	if !isLeaf {
		short = short || count == 0
		n.Kids = append(n.Kids, kid())
	}
	for range count {
		n.Keys = append(n.Keys, text(1))
		if isLeaf {
			n.Vals = append(n.Vals, text(0))
		} else {
			n.Kids = append(n.Kids, kid())
		}
	}
	for i := 1; i < count; i++ {
		short = short || string(n.Keys[i-1]) >= string(n.Keys[i])
	}
	return n, !short && len(b) == 0
}

// sized is a node, by what it shows, and how many bytes it has; 0, if it is not sound.
type sized struct {
	name string
	n    api.Node
	size int
}

// nodes are nodes at each edge of what is sound.
func nodes() []sized {
	return append(append(leaves(), inners()...), larger()...)
}

func leaves() []sized {
	with := func(n api.Node, kids ...int) api.Node {
		n.Kids = kids
		return n
	}
	but := func(n api.Node, vals ...string) api.Node {
		n.Vals = nil
		for _, val := range vals {
			n.Vals = append(n.Vals, []byte(val))
		}
		return n
	}
	return []sized{
		{"a leaf of no keys", leaf(), 1},
		{"a leaf of no keys, all lists empty", api.Node{Leaf: true, Keys: [][]byte{}, Vals: [][]byte{}, Kids: []int{}}, 1},
		{"the chapter's example", leaf("a", "1"), 5},
		{"keys that rise", leaf("a", "1", "b", "22", "c", "333"), 16},
		{"keys that rise, values that do not", leaf("a", "3", "b", "3", "c", "1"), 13},
		{"keys that rise as bytes", leaf("\x7f", "1", "\x80", "2", "\xff", "3"), 13},
		{"keys of bytes 0", leaf("\x00", "", "\x00\x00", "", "\x00\x01", ""), 12},
		{"the first two keys alike", leaf("a", "1", "a", "2", "b", "3"), 0},
		{"the last two keys alike", leaf("a", "1", "b", "2", "b", "2"), 0},
		{"the first two keys fall", leaf("b", "1", "a", "2", "c", "3"), 0},
		{"the last two keys fall", leaf("a", "1", "c", "2", "b", "3"), 0},
		{"keys that fall as bytes", leaf("\xff", "1", "\x00", "2"), 0},
		{"the last key is the first again", leaf("a", "1", "b", "2", "a", "3"), 0},
		{"a key that begins the next one", leaf("a", "1", "ab", "2"), 10},
		{"a key that the one ahead begins with", leaf("ab", "1", "a", "2"), 0},
		{"a longer key below a shorter one", leaf("ab", "1", "b", "2"), 10},
		{"a key of no bytes", leaf("", "1"), 0},
		{"a key of no bytes, then others", leaf("", "1", "a", "2"), 0},
		{"a key of no bytes behind another", leaf("a", "1", "", "2"), 0},
		{"a key of 24 bytes", leaf(long(24, "k"), "1"), 28},
		{"a key of 25 bytes", leaf(long(25, "k"), "1"), 0},
		{"a key of 25 bytes at last", leaf("a", "1", long(25, "k"), "2"), 0},
		{"a key of 281 bytes", leaf(long(281, "k"), "1"), 0},
		{"a value of no bytes", leaf("a", ""), 4},
		{"a value of 24 bytes", leaf("a", long(24, "v")), 28},
		{"a value of 25 bytes", leaf("a", long(25, "v")), 0},
		{"a value of 25 bytes at last", leaf("a", "1", "b", long(25, "v")), 0},
		{"a value of 256 bytes", leaf("a", long(256, "v")), 0},
		{"a key and a value of 24 bytes", leaf(long(24, "k"), long(24, "v")), 51},
		{"a value too few", but(leaf("a", "1", "b", "2"), "1"), 0},
		{"no value of one", but(leaf("a", "1")), 0},
		{"a value too many", but(leaf("a", "1"), "1", "2"), 0},
		{"a value without a key", but(leaf(), "1"), 0},
		{"a leaf with a kid", with(leaf("a", "1"), 5), 0},
		{"a leaf with two kids", with(leaf("a", "1"), 5, 6), 0},
		{"a leaf of no keys with a kid", with(leaf(), 0), 0},
	}
}

func inners() []sized {
	with := func(n api.Node, vals ...[]byte) api.Node {
		n.Vals = vals
		return n
	}
	return []sized{
		{"no leaf, nothing at all", inner(nil), 0},
		{"no leaf, no key, a kid", inner([]int{7}), 0},
		{"no leaf, no key, two kids", inner([]int{7, 8}), 0},
		{"no leaf, a key, no kid", inner(nil, "a"), 0},
		{"no leaf, a key, a kid", inner([]int{7}, "a"), 0},
		{"no leaf, a key, two kids", inner([]int{7, 8}, "a"), 7},
		{"no leaf, a key, three kids", inner([]int{7, 8, 9}, "a"), 0},
		{"no leaf, two keys, two kids", inner([]int{7, 8}, "a", "b"), 0},
		{"no leaf, two keys, three kids", inner([]int{7, 8, 9}, "a", "bb"), 12},
		{"no leaf, two keys, four kids", inner([]int{7, 8, 9, 10}, "a", "b"), 0},
		{"no leaf, values empty", with(inner([]int{7, 8}, "a"), [][]byte{}...), 7},
		{"no leaf, a value", with(inner([]int{7, 8}, "a"), []byte("1")), 0},
		{"no leaf, a value of no bytes", with(inner([]int{7, 8}, "a"), nil), 0},
		{"no leaf, a value and as many kids as keys", with(inner([]int{7}, "a"), []byte("1")), 0},
		{"a first kid of -1", inner([]int{-1, 8}, "a"), 0},
		{"a last kid of -1", inner([]int{7, 8, -1}, "a", "b"), 0},
		{"kids of 0", inner([]int{0, 0}, "a"), 7},
		{"kids of 1599", inner([]int{1599, 1599}, "a"), 7},
		{"a first kid of 1600", inner([]int{1600, 8}, "a"), 0},
		{"a kid of 1600 between others", inner([]int{7, 1600, 8}, "a", "b"), 0},
		{"a last kid of 1600", inner([]int{7, 1600}, "a"), 0},
		{"a kid of which two bytes are a kid", inner([]int{7, 65536 + 7}, "a"), 0},
		{"the least kid there is", inner([]int{math.MinInt, 7}, "a"), 0},
		{"the greatest kid there is", inner([]int{7, math.MaxInt}, "a"), 0},
		{"kids that fall, and twice one", inner([]int{9, 3, 9}, "a", "b"), 11},
		{"no leaf, keys alike", inner([]int{1, 2, 3}, "a", "a"), 0},
		{"no leaf, keys that fall", inner([]int{1, 2, 3}, "b", "a"), 0},
		{"no leaf, a key that begins the next one", inner([]int{1, 2, 3}, "a", "ab"), 12},
		{"no leaf, a key that the one ahead begins with", inner([]int{1, 2, 3}, "ab", "a"), 0},
		{"no leaf, a key of no bytes", inner([]int{1, 2}, ""), 0},
		{"no leaf, a key of 24 bytes", inner([]int{1, 2}, long(24, "k")), 30},
		{"no leaf, a key of 25 bytes", inner([]int{1, 2}, long(25, "k")), 0},
	}
}

// larger are nodes about the bounds of what is written, and far behind.
func larger() []sized {
	spoilt := leafOf(slices.Repeat([]int{4}, 300)...)
	spoilt.Keys[299] = spoilt.Keys[298]
	return []sized{
		{"a leaf of 231 bytes", leafOf(50, 50, 50, 50, 30), 231},
		{"a leaf of 232 bytes", leafOf(50, 50, 50, 50, 31), 232},
		{"a leaf of 233 bytes", leafOf(50, 50, 50, 50, 32), 233},
		{"a leaf of 282 bytes", leafOf(50, 50, 50, 50, 50, 31), 282},
		{"a node of 231 bytes", innerOf(27, 27, 27, 27, 27, 27, 27, 27, 12), 231},
		{"a node of 232 bytes", innerOf(27, 27, 27, 27, 27, 27, 27, 27, 13), 232},
		{"a node of 233 bytes", innerOf(27, 27, 27, 27, 27, 27, 27, 27, 14), 233},
		{"a leaf of 255 keys", leafOf(slices.Repeat([]int{4}, 255)...), 1 + 4*255},
		{"a leaf of 256 keys", leafOf(slices.Repeat([]int{4}, 256)...), 1 + 4*256},
		{"a leaf of 300 keys", leafOf(slices.Repeat([]int{50}, 300)...), 1 + 50*300},
		{"a leaf of 512 keys", leafOf(slices.Repeat([]int{4}, 512)...), 1 + 4*512},
		{"a node of 255 keys", innerOf(slices.Repeat([]int{5}, 255)...), 3 + 5*255},
		{"a node of 256 keys", innerOf(slices.Repeat([]int{5}, 256)...), 3 + 5*256},
		{"a node of 1000 keys", innerOf(slices.Repeat([]int{27}, 1000)...), 3 + 27*1000},
		{"a leaf of 300 keys, the last two alike", spoilt, 0},
	}
}

// P7.1: what is sound, and what is not.
func TestSound(t *testing.T) {
	for _, x := range nodes() {
		if got := node.Sound(x.n); got != (x.size > 0) {
			t.Errorf("%s: Sound is %v", x.name, got)
		}
	}
}

// P7.1: keys and values of each length, in a leaf and in another node.
func TestSoundLengths(t *testing.T) {
	for n := range 60 {
		if got := node.Sound(leaf(long(n, "k"), "v")); got != (n >= 1 && n <= 24) {
			t.Errorf("a leaf with a key of %d bytes: %v", n, got)
		}
		if got := node.Sound(inner([]int{1, 2}, long(n, "k"))); got != (n >= 1 && n <= 24) {
			t.Errorf("another node with a key of %d bytes: %v", n, got)
		}
		if got := node.Sound(leaf("k", long(n, "v"))); got != (n <= 24) {
			t.Errorf("a leaf with a value of %d bytes: %v", n, got)
		}
	}
}

// P7.1: kids from 0 to 1599, wherever one stands.
func TestSoundKids(t *testing.T) {
	for kid := -300; kid < 2000; kid++ {
		for at := range 3 {
			kids := []int{5, 6, 7}
			kids[at] = kid
			if got := node.Sound(inner(kids, "a", "b")); got != (kid >= 0 && kid <= 1599) {
				t.Errorf("kids %v: %v", kids, got)
			}
		}
	}
}

// P7.1: keys rise as bytes do, and none is there twice: of two of up to two bytes each.
func TestSoundTwoKeys(t *testing.T) {
	var keys []string
	for _, a := range []string{"\x00", "\x01", "a", "\x7f", "\x80", "\xff"} {
		keys = append(keys, a)
		for _, b := range []string{"\x00", "a", "\xff"} {
			keys = append(keys, a+b)
		}
	}
	for _, a := range keys {
		for _, b := range keys {
			if got := node.Sound(leaf(a, "", b, "")); got != (a < b) {
				t.Errorf("a leaf of %q, %q: %v", a, b, got)
			}
			if got := node.Sound(inner([]int{0, 0, 0}, a, b)); got != (a < b) {
				t.Errorf("another node of %q, %q: %v", a, b, got)
			}
		}
	}
}

// P7.1: how many values and kids there are to how many keys.
func TestSoundCounts(t *testing.T) {
	for keys := range 5 {
		for vals := range 7 {
			for kids := range 7 {
				n := api.Node{Vals: make([][]byte, vals), Kids: make([]int, kids)}
				for i := range keys {
					n.Keys = append(n.Keys, risen(i, 2))
				}
				if got := node.Sound(n); got != (keys > 0 && vals == 0 && kids == keys+1) {
					t.Errorf("%d keys, %d values, %d kids: %v", keys, vals, kids, got)
				}
				n.Leaf = true
				if got := node.Sound(n); got != (vals == keys && kids == 0) {
					t.Errorf("a leaf of %d keys, %d values, %d kids: %v", keys, vals, kids, got)
				}
			}
		}
	}
}

// P7.1: Size is how many bytes P7.2 writes, of what is too large, too; 0 of what is not sound.
func TestSize(t *testing.T) {
	for _, x := range nodes() {
		if got := node.Size(x.n); got != x.size {
			t.Errorf("%s: Size is %d, not %d", x.name, got, x.size)
		}
		if x.size > 0 && len(written(x.n)) != x.size {
			t.Errorf("%s: it is written with %d bytes, not %d", x.name, len(written(x.n)), x.size)
		}
	}
}

// P7.2: the chapter's example, and one of each kind, byte by byte.
func TestEncodeExample(t *testing.T) {
	for _, x := range []struct {
		n    api.Node
		want string
	}{
		{leaf("a", "1"), "\x01\x01a\x011"},
		{leaf(), "\x00"},
		{leaf("a", "", "bc", "xyz"), "\x02\x01a\x00\x02bc\x03xyz"},
		{leaf(long(24, "k"), long(24, "v")), "\x01\x18" + long(24, "k") + "\x18" + long(24, "v")},
		{inner([]int{0, 1599}, "a"), "\x01\x00\x00\x01a\x06\x3f"},
		{inner([]int{0x0102, 0x0304, 0x0506}, "a", "bc"), "\x02\x01\x02\x01a\x03\x04\x02bc\x05\x06"},
		{inner([]int{255, 256}, long(24, "k")), "\x01\x00\xff\x18" + long(24, "k") + "\x01\x00"},
	} {
		if b, e := node.Encode(x.n); e != api.OK || string(b) != x.want {
			t.Errorf("Encode(%v) is %x, %v, not %x", x.n, b, e, x.want)
		}
		if n, e := node.Decode(x.n.Leaf, []byte(x.want)); e != api.OK || !same(n, x.n) {
			t.Errorf("Decode(%v, %x) is %v, %v, not %v", x.n.Leaf, x.want, n, e, x.n)
		}
	}
}

// P7.2: ErrForm of what is not sound, or has more than 255 keys; else ErrLong of more than 232 bytes; else the bytes.
func TestEncode(t *testing.T) {
	for _, x := range nodes() {
		want := api.OK
		switch {
		case x.size == 0 || len(x.n.Keys) > 255:
			want = api.ErrForm
		case x.size > 232:
			want = api.ErrLong
		}
		b, e := node.Encode(x.n)
		if e != want {
			t.Errorf("%s: Encode is %x, %v, not %v", x.name, b, e, want)
			continue
		}
		if e == api.OK && !bytes.Equal(b, written(x.n)) {
			t.Errorf("%s: Encode is %x, not %x", x.name, b, written(x.n))
		}
		if e != api.OK && b != nil {
			t.Errorf("%s: Encode is %x, %v", x.name, b, e)
		}
	}
}

// P7.2: up to 232 bytes, and no more, at each size about that.
func TestEncodeLong(t *testing.T) {
	for last := 4; last <= 50; last++ {
		n := leafOf(50, 50, 50, 50, last)
		b, e := node.Encode(n)
		if fits := 201+last <= 232; fits != (e == api.OK) || !fits && e != api.ErrLong {
			t.Errorf("a leaf of %d bytes: %v", 201+last, e)
		} else if fits && !bytes.Equal(b, written(n)) {
			t.Errorf("a leaf of %d bytes: %x", 201+last, b)
		}
	}
	for last := 5; last <= 27; last++ {
		n := innerOf(27, 27, 27, 27, 27, 27, 27, 27, last)
		b, e := node.Encode(n)
		if fits := 219+last <= 232; fits != (e == api.OK) || !fits && e != api.ErrLong {
			t.Errorf("a node of %d bytes: %v", 219+last, e)
		} else if fits && !bytes.Equal(b, written(n)) {
			t.Errorf("a node of %d bytes: %x", 219+last, b)
		}
	}
}

// P7.2: as many keys as 232 bytes can have.
func TestEncodeMostKeys(t *testing.T) {
	n, m := api.Node{Leaf: true}, api.Node{Kids: []int{3}}
	for i := range 77 {
		n.Keys, n.Vals = append(n.Keys, []byte{byte(i)}), append(n.Vals, nil)
	}
	for i := range 57 {
		m.Keys, m.Kids = append(m.Keys, []byte{byte(i)}), append(m.Kids, i)
	}
	there(t, n)
	there(t, m)
}

// there holds n there and back.
func there(t *testing.T, n api.Node) []byte {
	t.Helper()
	b, e := node.Encode(n)
	if e != api.OK || !bytes.Equal(b, written(n)) || len(b) != node.Size(n) {
		t.Fatalf("Encode(%v) is %x, %v, and Size %d", n, b, e, node.Size(n))
	}
	back, e := node.Decode(n.Leaf, b)
	if e != api.OK || !same(back, n) {
		t.Fatalf("Decode(%v, %x) is %v, %v, not %v", n.Leaf, b, back, e, n)
	}
	return b
}

// none holds that b is no node.
func none(t *testing.T, isLeaf bool, b []byte) {
	t.Helper()
	if n, e := node.Decode(isLeaf, b); e != api.ErrForm || !zero(n) {
		t.Fatalf("Decode(%v, %x) is %v, %v, not ErrForm", isLeaf, b, n, e)
	}
}

// some are nodes that have bytes.
func some() []api.Node {
	var l []api.Node
	for _, x := range nodes() {
		if x.size > 0 && x.size <= 232 {
			l = append(l, x.n)
		}
	}
	return l
}

// P7.2: bytes cut off the end, wherever, or bytes too many.
func TestDecodeCut(t *testing.T) {
	for _, n := range some() {
		b := there(t, n)
		for size := range len(b) {
			none(t, n.Leaf, b[:size])
			none(t, n.Leaf, b[:size:size])
		}
		for _, more := range []string{"\x00", "\x01", "k", "\x01b\x00", "\x01z\x00\x00", "\x00\x00", long(300, "\x00")} {
			none(t, n.Leaf, append(bytes.Clone(b), more...))
			agreed(t, n.Leaf, append([]byte(more), b...))
		}
	}
}

// P7.2: no bytes at all are no node.
func TestDecodeNothing(t *testing.T) {
	for _, b := range [][]byte{nil, {}, make([]byte, 0, 10)} {
		none(t, true, b)
		none(t, false, b)
	}
}

// but is a copy of b with x at at.
func but(b []byte, at int, x byte) []byte {
	b = bytes.Clone(b)
	b[at] = x
	return b
}

// P7.2: a number of keys that is not that of those behind it.
func TestDecodeCount(t *testing.T) {
	for _, n := range some() {
		b := there(t, n)
		for count := range 256 {
			if count != len(n.Keys) {
				none(t, n.Leaf, but(b, 0, byte(count)))
			}
		}
	}
}

// P7.2: a key's or a value's length that goes past the end, or is any other.
func TestDecodeLengths(t *testing.T) {
	for size := range 256 {
		b := "\x01\x00kk\x02vv"
		keyed, valued := but([]byte(b), 1, byte(size)), but([]byte("\x01\x02kk\x00vv"), 4, byte(size))
		other := but([]byte("\x01\x00\x05\x00kk\x00\x06"), 3, byte(size))
		if size != 2 {
			none(t, true, keyed)
			none(t, true, valued)
			none(t, false, other)
			continue
		}
		there(t, leaf("kk", "vv"))
		there(t, inner([]int{5, 6}, "kk"))
	}
	// Past the end by one, and no more: the last value, the last key.
	none(t, true, []byte("\x01\x01k\x03vv"))
	none(t, false, []byte("\x01\x00\x05\x03kk\x00\x06"))
	none(t, true, []byte("\x02\x01k\x00\x01"))
	none(t, true, []byte("\x01\xff"))
	none(t, false, []byte("\x01\x00\x00\xff"))
}

// P7.2: keys and values of each length: up to 24 bytes, and a key of at least one.
func TestDecodeTexts(t *testing.T) {
	for size := range 60 {
		key, val := leaf(long(size, "k"), "v"), leaf("k", long(size, "v"))
		other := inner([]int{5, 6}, long(size, "k"))
		if size >= 1 && size <= 24 {
			there(t, key)
			there(t, other)
		} else {
			none(t, true, written(key))
			none(t, false, written(other))
		}
		if size <= 24 {
			there(t, val)
		} else {
			none(t, true, written(val))
		}
	}
}

// P7.2: kids up to 1599, the first one and others.
func TestDecodeKids(t *testing.T) {
	for kid := range 65536 {
		for at := range 2 {
			kids := []int{5, 6}
			kids[at] = kid
			n := inner(kids, "k")
			if kid < 1600 {
				there(t, n)
			} else {
				none(t, false, written(n))
			}
		}
	}
}

// P7.2: keys that do not rise, no key in what is no leaf, and what is too long, are no node.
func TestDecodeNotSound(t *testing.T) {
	noBytes := func(kid int) bool { return kid != int(uint16(kid)) }
	for _, x := range nodes() {
		paired := x.n.Leaf && len(x.n.Kids) == 0 && len(x.n.Vals) == len(x.n.Keys) ||
			!x.n.Leaf && len(x.n.Vals) == 0 && len(x.n.Kids) == len(x.n.Keys)+1
		if !paired || slices.ContainsFunc(x.n.Kids, noBytes) {
			continue
		}
		if got := agreed(t, x.n.Leaf, written(x.n)); got != (x.size > 0 && x.size <= 232) {
			t.Errorf("%s: that its bytes are a node is %v", x.name, got)
		}
	}
	none(t, false, []byte{0, 0, 0})
	none(t, false, []byte{0, 0, 7})
	none(t, false, []byte{0})
}

// P7.2: a leaf's bytes read as another node's, and the other way round.
func TestDecodeOtherKind(t *testing.T) {
	for _, n := range some() {
		b := there(t, n)
		want, ok := parsed(!n.Leaf, b)
		got, e := node.Decode(!n.Leaf, b)
		if ok != (e == api.OK) || ok && !same(got, want) || !ok && (e != api.ErrForm || !zero(got)) {
			t.Errorf("Decode(%v, %x) is %v, %v", !n.Leaf, b, got, e)
		}
	}
	none(t, false, there(t, leaf("a", "1")))
	none(t, false, there(t, leaf()))
	none(t, true, there(t, inner([]int{7, 8}, "a")))
	none(t, true, there(t, inner([]int{7, 8, 9}, "a", "bb")))
	// The same bytes, of either kind.
	b := there(t, leaf("\x05\x01", "\x03\x04"))
	if other := there(t, inner([]int{0x205, 0x304}, "\x02")); !bytes.Equal(b, other) {
		t.Errorf("a leaf is %x, another node %x", b, other)
	}
}

// agreed holds Decode of b against the words of the chapter, and what it tells against what Encode tells back; it tells whether b is a node.
func agreed(t *testing.T, isLeaf bool, b []byte) bool {
	t.Helper()
	want, ok := parsed(isLeaf, b)
	if !ok {
		none(t, isLeaf, b)
		return false
	}
	n, e := node.Decode(isLeaf, b)
	if e != api.OK || !same(n, want) {
		t.Fatalf("Decode(%v, %x) is %v, %v, not %v", isLeaf, b, n, e, want)
	}
	if back := there(t, n); !bytes.Equal(back, b) {
		t.Fatalf("Encode of Decode(%v, %x) is %x", isLeaf, b, back)
	}
	return true
}

// P7.2: all bytes of up to seven of a few values, as a leaf and as another node.
func TestDecodeAll(t *testing.T) {
	few := []byte{0, 1, 2, 3, 25}
	found := [2]int{}
	b := make([]byte, 7)
	for size := range 8 {
		all := 1
		for range size {
			all *= len(few)
		}
		for x := range all {
			for i := range size {
				b[i] = few[x%len(few)]
				x /= len(few)
			}
			for i, isLeaf := range []bool{true, false} {
				if agreed(t, isLeaf, b[:size]) {
					found[i]++
				}
			}
		}
	}
	if found[0] < 500 || found[1] < 500 {
		t.Errorf("only %v were nodes", found)
	}
}

// someText is a text of r's own: of from least to 24 bytes, the edges often, and of few values, so that keys are alike often.
func someText(r *rand.Rand, least int) []byte {
	size := []int{least, 1, 2, 3, 23, 24, least + r.Intn(25-least)}[r.Intn(7)]
	b := make([]byte, size)
	for i := range b {
		b[i] = []byte{0, 1, 'a', 'b', 0x80, 0xff, byte(r.Intn(256)), byte(r.Intn(256))}[r.Intn(8)]
	}
	return b
}

// someNode is a sound node of so many keys.
func someNode(r *rand.Rand, isLeaf bool, keys int) api.Node {
	there := map[string]bool{}
	for len(there) < keys {
		there[string(someText(r, 1))] = true
	}
	n := api.Node{Leaf: isLeaf}
	for key := range there {
		n.Keys = append(n.Keys, []byte(key))
	}
	sort.Slice(n.Keys, func(i, k int) bool { return string(n.Keys[i]) < string(n.Keys[k]) })
	if isLeaf {
		for range keys {
			n.Vals = append(n.Vals, someText(r, 0))
		}
		return n
	}
	for range keys + 1 {
		n.Kids = append(n.Kids, []int{0, 1599, 255, 256, r.Intn(1600)}[r.Intn(5)])
	}
	return n
}

// someSmall is a sound node of no more than most bytes.
func someSmall(r *rand.Rand, isLeaf bool, most int) api.Node {
	n := someNode(r, isLeaf, 1+r.Intn(20))
	for len(written(n)) > most {
		n = someNode(r, isLeaf, 1+r.Intn(len(n.Keys)))
	}
	return n
}

// P7.7: Decode of Encode is the node; what has too many bytes is ErrLong.
func TestThereAndBack(t *testing.T) {
	r := rand.New(rand.NewSource(7))
	for k := range 20000 {
		n := someNode(r, k%2 == 0, 1+r.Intn(16))
		if len(written(n)) <= 232 {
			there(t, n)
		} else if b, e := node.Encode(n); b != nil || e != api.ErrLong {
			t.Fatalf("Encode(%v) is %x, %v", n, b, e)
		}
		if node.Size(n) != len(written(n)) {
			t.Fatalf("Size(%v) is %d", n, node.Size(n))
		}
	}
}

// P7.2, P7.7: bytes of nodes with some of them turned: what Decode tells Encode tells back, to the byte.
func TestDecodeSpoilt(t *testing.T) {
	r := rand.New(rand.NewSource(8))
	found := 0
	for k := range 40000 {
		b := written(someSmall(r, k%2 == 0, 232))
		for range r.Intn(3) {
			b[r.Intn(len(b))] = []byte{0, 1, 2, 24, 25, 'a', byte(r.Intn(256))}[r.Intn(7)]
		}
		if agreed(t, k%2 == 0, b) {
			found++
		}
		agreed(t, k%2 == 1, b)
	}
	if found < 5000 || found > 39000 {
		t.Errorf("%d were nodes", found)
	}
}

// P7.2: each byte of some nodes as each other byte.
func TestDecodeEachByte(t *testing.T) {
	for _, n := range []api.Node{leaf("a", "1", "bc", "", "bd", "xyz"), inner([]int{0x102, 0, 1599, 6}, "a", "bc", "bd")} {
		b := there(t, n)
		for at := range b {
			for x := range 256 {
				agreed(t, n.Leaf, but(b, at, byte(x)))
			}
		}
	}
}

// P7.3: how many keys are below, whether it is there; how many are it, or below.
func TestFindAndKid(t *testing.T) {
	keys := []string{"b", "bb", "d", "\x80", "\xff\x00"}
	n, m := leaf("b", "1", "bb", "2", "d", "3", "\x80", "4", "\xff\x00", "5"), inner([]int{1, 2, 3, 4, 5, 6}, keys...)
	for _, x := range []struct {
		name, key string
		find      int
		there     bool
		kid       int
	}{
		{"no bytes", "", 0, false, 0},
		{"below all", "\x00", 0, false, 0},
		{"below all, by its second byte", "a\xff", 0, false, 0},
		{"the first one", "b", 0, true, 1},
		{"behind the first one, which it begins with", "b\x00", 1, false, 1},
		{"just below the second one", "ba\xff", 1, false, 1},
		{"the second one", "bb", 1, true, 2},
		{"between two", "c", 2, false, 2},
		{"the third one", "d", 2, true, 3},
		{"between two, far", "\x7f\xff", 3, false, 3},
		{"the fourth one", "\x80", 3, true, 4},
		{"what the last one begins with", "\xff", 4, false, 4},
		{"the last one", "\xff\x00", 4, true, 5},
		{"above all, by a byte behind", "\xff\x00\x00", 5, false, 5},
		{"above all", "\xff\xff", 5, false, 5},
		{"25 bytes, below all", long(25, "a"), 0, false, 0},
		{"25 bytes, behind the first two", long(25, "b"), 2, false, 2},
		{"300 bytes, above all", long(300, "\xff"), 5, false, 5},
	} {
		for _, n := range []api.Node{n, m} {
			if at, ok := node.Find(n, []byte(x.key)); at != x.find || ok != x.there {
				t.Errorf("%s: Find(%q) is %d, %v", x.name, x.key, at, ok)
			}
			if at := node.Kid(n, []byte(x.key)); at != x.kid {
				t.Errorf("%s: Kid(%q) is %d", x.name, x.key, at)
			}
		}
	}
	if at, ok := node.Find(n, nil); at != 0 || ok || node.Kid(n, nil) != 0 {
		t.Errorf("no key: Find is %d, %v, Kid %d", at, ok, node.Kid(n, nil))
	}
}

// P7.3: of a node without keys there is nothing to find.
func TestFindNothing(t *testing.T) {
	for _, n := range []api.Node{{}, leaf(), inner([]int{7})} {
		for _, key := range []string{"", "a", long(25, "k")} {
			if at, ok := node.Find(n, []byte(key)); at != 0 || ok || node.Kid(n, []byte(key)) != 0 {
				t.Errorf("Find(%v, %q) is %d, %v, Kid %d", n, key, at, ok, node.Kid(n, []byte(key)))
			}
		}
	}
}

// P7.3: the words count keys, whether the node is sound or not.
func TestFindNotSound(t *testing.T) {
	for _, n := range []api.Node{
		inner(nil, "d", "b", "", "b", "c"), {Leaf: true, Keys: inner(nil, "d", "b", "", "b", "c").Keys}, leaf("d", "1", "b", "2", "", "3", "b", "4", "c", "5"),
	} {
		for _, x := range []struct {
			key   string
			find  int
			there bool
			kid   int
		}{
			{"", 0, true, 1}, {"a", 1, false, 1}, {"b", 1, true, 3}, {"bb", 3, false, 3}, {"c", 3, true, 4}, {"d", 4, true, 5}, {"e", 5, false, 5},
		} {
			at, ok := node.Find(n, []byte(x.key))
			if kid := node.Kid(n, []byte(x.key)); at != x.find || ok != x.there || kid != x.kid {
				t.Errorf("Find(%q) is %d, %v, Kid %d", x.key, at, ok, kid)
			}
		}
	}
}

// P7.3: of many nodes and keys, as counting tells.
func TestFindMany(t *testing.T) {
	r := rand.New(rand.NewSource(9))
	for k := range 5000 {
		n := someNode(r, k%2 == 0, 1+r.Intn(12))
		key := someText(r, 0)
		if r.Intn(2) == 0 {
			key = n.Keys[r.Intn(len(n.Keys))]
		}
		below, alike := 0, 0
		for _, other := range n.Keys {
			switch {
			case string(other) < string(key):
				below++
			case string(other) == string(key):
				alike++
			}
		}
		at, ok := node.Find(n, key)
		if kid := node.Kid(n, key); at != below || ok != (alike > 0) || kid != below+alike {
			t.Fatalf("of %v: Find(%q) is %d, %v, Kid %d", n, key, at, ok, kid)
		}
	}
}

// put holds what Put answers against want.
func put(t *testing.T, n api.Node, key, val string, want api.Node) {
	t.Helper()
	if got, ok := node.Put(n, []byte(key), []byte(val)); !ok || !same(got, want) {
		t.Errorf("Put(%v, %q, %q) is %v, %v, not %v", n, key, val, got, ok, want)
	}
}

// P7.4: a new key comes ahead of all, between two, behind all; what is there gets the value.
func TestPut(t *testing.T) {
	n := leaf("b", "1", "d", "22")
	put(t, n, "a", "x", leaf("a", "x", "b", "1", "d", "22"))
	put(t, n, "c", "x", leaf("b", "1", "c", "x", "d", "22"))
	put(t, n, "b\x00", "x", leaf("b", "1", "b\x00", "x", "d", "22"))
	put(t, n, "e", "x", leaf("b", "1", "d", "22", "e", "x"))
	put(t, n, "b", "xyz", leaf("b", "xyz", "d", "22"))
	put(t, n, "d", "", leaf("b", "1", "d", ""))
	put(t, n, "d", "22", n)
	put(t, leaf(), "a", "1", leaf("a", "1"))
	put(t, leaf("a", "1"), "a", "2", leaf("a", "2"))
	put(t, leaf(), "a", "", leaf("a", ""))
	put(t, leaf(), long(24, "k"), long(24, "v"), leaf(long(24, "k"), long(24, "v")))
	put(t, n, "\xff", long(24, "v"), leaf("b", "1", "d", "22", "\xff", long(24, "v")))
	if got, ok := node.Put(leaf(), []byte("a"), nil); !ok || !same(got, leaf("a", "")) {
		t.Errorf("Put of no value is %v, %v", got, ok)
	}
}

// P7.4: the node may have any size then, and any number of keys.
func TestPutLarge(t *testing.T) {
	put(t, leafOf(50, 50, 50, 50, 31), "\xff", "v", leafAnd(leafOf(50, 50, 50, 50, 31), "\xff", "v"))
	for _, keys := range []int{255, 256, 300} {
		n := leafOf(slices.Repeat([]int{30}, keys)...)
		put(t, n, "\xff", "v", leafAnd(n, "\xff", "v"))
	}
}

// leafAnd is leaf n with a cell behind all others.
func leafAnd(n api.Node, key, val string) api.Node {
	n.Keys = append(slices.Clone(n.Keys), []byte(key))
	n.Vals = append(slices.Clone(n.Vals), []byte(val))
	return n
}

// noPut holds that Put is refused.
func noPut(t *testing.T, name string, n api.Node, key, val string) {
	t.Helper()
	if got, ok := node.Put(n, []byte(key), []byte(val)); ok || !zero(got) {
		t.Errorf("%s: Put(%v, %q, %q) is %v, %v", name, n, key, val, got, ok)
	}
}

// P7.4: no Put of a key or a value that may not be, or into what is no sound leaf.
func TestPutWrong(t *testing.T) {
	for _, n := range []api.Node{leaf(), leaf("a", "1"), leaf("a", "1", "c", "2")} {
		noPut(t, "a key of no bytes", n, "", "v")
		noPut(t, "a value of 25 bytes", n, "b", long(25, "v"))
		noPut(t, "a value of 25 bytes of a key that is there", n, "a", long(25, "v"))
		noPut(t, "a value of 256 bytes", n, "b", long(256, "v"))
		for _, size := range []int{25, 26, 255, 256, 257, 300} {
			noPut(t, "a long key", n, long(size, "k"), "v")
		}
	}
	if got, ok := node.Put(leaf("a", "1"), nil, nil); ok || !zero(got) {
		t.Errorf("Put of no key is %v, %v", got, ok)
	}
	for _, x := range nodes() {
		if x.n.Leaf && x.size > 0 {
			if got, ok := node.Put(x.n, []byte("b"), []byte("v")); !ok || !node.Sound(got) {
				t.Errorf("%s: Put is %v, %v", x.name, got, ok)
			}
			continue
		}
		noPut(t, x.name, x.n, "b", "v")
		noPut(t, x.name, x.n, "a", "v")
	}
}

// P7.4: each key can be deleted, and no other one goes with it.
func TestDelete(t *testing.T) {
	n := leaf("a", "1", "b", "22", "bb", "", "d", "4")
	for _, x := range []struct {
		key  string
		want api.Node
	}{
		{"a", leaf("b", "22", "bb", "", "d", "4")},
		{"b", leaf("a", "1", "bb", "", "d", "4")},
		{"bb", leaf("a", "1", "b", "22", "d", "4")},
		{"d", leaf("a", "1", "b", "22", "bb", "")},
	} {
		if got, ok := node.Delete(n, []byte(x.key)); !ok || !same(got, x.want) {
			t.Errorf("Delete(%q) is %v, %v, not %v", x.key, got, ok, x.want)
		}
	}
	if got, ok := node.Delete(leaf("a", "1"), []byte("a")); !ok || !same(got, leaf()) {
		t.Errorf("Delete of the last key is %v, %v", got, ok)
	}
	big := leafOf(slices.Repeat([]int{30}, 300)...)
	for i := range 300 {
		want := api.Node{Leaf: true, Keys: slices.Delete(slices.Clone(big.Keys), i, i+1), Vals: slices.Delete(slices.Clone(big.Vals), i, i+1)}
		if got, ok := node.Delete(big, big.Keys[i]); !ok || !same(got, want) {
			t.Fatalf("Delete of key %d of 300 is %v, %v", i, got, ok)
		}
	}
}

// P7.4: no Delete of a key that is not there, or from what is no sound leaf.
func TestDeleteWrong(t *testing.T) {
	for _, n := range []api.Node{leaf(), leaf("b", "1"), leaf("b", "1", "bb", "2", "d", "3")} {
		for _, key := range []string{"", "a", "b\x00", "ba", "c", "e", "\x00", "\xff", long(24, "b"), long(25, "b"), long(300, "b")} {
			if got, ok := node.Delete(n, []byte(key)); ok || !zero(got) {
				t.Errorf("Delete(%v, %q) is %v, %v", n, key, got, ok)
			}
		}
	}
	for _, x := range nodes() {
		if x.n.Leaf && x.size > 0 {
			continue
		}
		for _, key := range append([][]byte{nil, []byte("a")}, x.n.Keys...) {
			if got, ok := node.Delete(x.n, key); ok || !zero(got) {
				t.Errorf("%s: Delete(%q) is %v, %v", x.name, key, got, ok)
			}
		}
	}
}

// P7.4: many Puts and Deletes, one after the other, as a map does them.
func TestPutAndDeleteMany(t *testing.T) {
	for seed := range 60 {
		r := rand.New(rand.NewSource(int64(seed)))
		n, m := leaf(), map[string]string{}
		for range 400 {
			key, val := someText(r, 1), someText(r, 0)
			if len(n.Keys) > 0 && r.Intn(2) == 0 {
				key = n.Keys[r.Intn(len(n.Keys))]
			}
			if r.Intn(5) < 2 {
				_, was := m[string(key)]
				got, ok := node.Delete(n, key)
				if ok != was {
					t.Fatalf("seed %d: Delete(%q) is %v, %v", seed, key, got, ok)
				}
				if ok {
					n = got
				}
				delete(m, string(key))
			} else {
				got, ok := node.Put(n, key, val)
				if !ok {
					t.Fatalf("seed %d: Put(%q, %q) is %v, %v", seed, key, val, got, ok)
				}
				n, m[string(key)] = got, string(val)
			}
			if want := mapped(m); !same(n, want) {
				t.Fatalf("seed %d: it is %v, not %v", seed, n, want)
			}
		}
	}
}

// mapped is the leaf of m.
func mapped(m map[string]string) api.Node {
	var keys, cells []string
	for key := range m {
		keys = append(keys, key)
	}
	sort.Strings(keys)
	for _, key := range keys {
		cells = append(cells, key, m[key])
	}
	return leaf(cells...)
}

// cellSizes is how many bytes each cell of n has, by the bytes that are written of it.
func cellSizes(n api.Node) []int {
	var l []int
	for i := range n.Keys {
		one := api.Node{Leaf: n.Leaf, Keys: n.Keys[i : i+1]}
		ahead := 1
		if n.Leaf {
			one.Vals = n.Vals[i : i+1]
		} else {
			one.Kids = n.Kids[i : i+2]
			ahead = 3
		}
		l = append(l, len(written(one))-ahead)
	}
	return l
}

// parted is how many cells of n go first, by the words of P7.5, of parts that leave at least so many: all parts are looked at, the least first.
func parted(n api.Node, leave int) int {
	sizes := cellSizes(n)
	sum := func(l []int) int {
		s := 0
		for _, size := range l {
			s += size
		}
		return s
	}
	for i := 1; i <= len(sizes)-leave; i++ {
		if float64(sum(sizes[:i])) >= float64(sum(sizes))/2 {
			return i
		}
	}
	return len(sizes) - leave
}

// halves holds both halves of n, and what is between, against those that have i cells in the first one.
func halves(t *testing.T, n api.Node, i int) {
	t.Helper()
	a, key, b, ok := node.Split(n)
	wantA, wantB := api.Node{Leaf: n.Leaf, Keys: n.Keys[:i]}, api.Node{Leaf: n.Leaf}
	if n.Leaf {
		wantA.Vals = n.Vals[:i]
		wantB.Keys, wantB.Vals = n.Keys[i:], n.Vals[i:]
	} else {
		wantA.Kids = n.Kids[:i+1]
		wantB.Keys, wantB.Kids = n.Keys[i+1:], n.Kids[i+1:]
	}
	if !ok || !same(a, wantA) || !bytes.Equal(key, n.Keys[i]) || !same(b, wantB) {
		t.Fatalf("Split(%v) is %v, %q, %v, %v, not %v, %q, %v", n, a, key, b, ok, wantA, n.Keys[i], wantB)
	}
	if !node.Sound(a) || !node.Sound(b) {
		t.Fatalf("Split(%v) is %v, %v, which are not sound", n, a, b)
	}
	if back, ok := node.Merge(a, key, b); !ok || !same(back, n) {
		t.Fatalf("Merge of Split(%v) is %v, %v", n, back, ok)
	}
}

// P7.5: leaves, by how many bytes their cells have, and how many cells go first.
func TestSplitLeaf(t *testing.T) {
	for _, x := range []struct {
		name  string
		sizes []int
		first int
	}{
		{"two alike", []int{10, 10}, 1},
		{"two, the first one longer", []int{50, 4}, 1},
		{"two, the last one longer", []int{4, 50}, 1},
		{"three alike", []int{10, 10, 10}, 2},
		{"three, the first one just half", []int{20, 10, 10}, 1},
		{"three, the first one less than half by one", []int{19, 10, 10}, 2},
		{"three, the first one less than half by one of an even number", []int{19, 10, 11}, 2},
		{"three, the first one more than half by one", []int{21, 10, 10}, 1},
		{"three, the first two just half", []int{10, 10, 20}, 2},
		{"three, the last one longer than both others", []int{4, 5, 50}, 2},
		{"four alike", []int{7, 7, 7, 7}, 2},
		{"four, the first three just half", []int{5, 6, 7, 18}, 3},
		{"four, the first two less than half by one", []int{10, 9, 10, 10}, 3},
		{"four, the last one longer than all others", []int{10, 10, 10, 50}, 3},
		{"five alike", []int{8, 8, 8, 8, 8}, 3},
		{"six, the first one longer than all others", []int{50, 9, 9, 9, 9, 9}, 1},
		{"many alike, even", slices.Repeat([]int{11}, 40), 20},
		{"many alike, odd", slices.Repeat([]int{11}, 41), 21},
		{"more than 255", slices.Repeat([]int{4}, 400), 200},
		{"many, the last one longest", append(slices.Repeat([]int{4}, 9), 50), 9},
	} {
		n := leafOf(x.sizes...)
		if parted(n, 1) != x.first {
			t.Fatalf("%s: the words tell %d, not %d", x.name, parted(n, 1), x.first)
		}
		t.Run(x.name, func(t *testing.T) { halves(t, n, x.first) })
	}
	halves(t, leaf("a", "1", "b", "2"), 1)
}

// P7.5: other nodes, where one key goes into neither half; its bytes count among all.
func TestSplitInner(t *testing.T) {
	for _, x := range []struct {
		name  string
		sizes []int
		first int
	}{
		{"three alike", []int{10, 10, 10}, 1},
		{"three, the first one longest", []int{27, 5, 5}, 1},
		{"three, the last one longest", []int{5, 5, 27}, 1},
		{"four alike", []int{10, 10, 10, 10}, 2},
		{"four, the first one just half", []int{15, 5, 5, 5}, 1},
		{"four, the first one less than half by one", []int{14, 5, 5, 5}, 2},
		{"four, the first one more than half by one", []int{16, 5, 5, 5}, 1},
		{"four, the first two just half", []int{8, 9, 7, 10}, 2},
		{"four, the last two longer than all others", []int{5, 5, 20, 20}, 2},
		{"four, the last one longer than all others", []int{5, 6, 7, 27}, 2},
		{"five alike", []int{9, 9, 9, 9, 9}, 3},
		{"five, the last one longer than all others", []int{5, 5, 6, 6, 27}, 3},
		{"five, the first three just half", []int{5, 6, 7, 9, 9}, 3},
		{"six, the first four just half", []int{5, 5, 5, 5, 10, 10}, 4},
		{"six, the first four less than half by one", []int{5, 5, 5, 5, 11, 10}, 4},
		{"many alike, even", slices.Repeat([]int{11}, 40), 20},
		{"many alike, odd", slices.Repeat([]int{11}, 41), 21},
		{"more than 255", slices.Repeat([]int{5}, 400), 200},
	} {
		n := innerOf(x.sizes...)
		if parted(n, 2) != x.first {
			t.Fatalf("%s: the words tell %d, not %d", x.name, parted(n, 2), x.first)
		}
		t.Run(x.name, func(t *testing.T) { halves(t, n, x.first) })
	}
	halves(t, inner([]int{7, 8, 9, 10}, "a", "b", "c"), 1)
}

// P7.5: what can't be split: too few cells, or not sound.
func TestSplitWrong(t *testing.T) {
	for _, x := range nodes() {
		least := 3
		if x.n.Leaf {
			least = 2
		}
		a, key, b, ok := node.Split(x.n)
		if want := x.size > 0 && len(x.n.Keys) >= least; ok != want {
			t.Errorf("%s: Split is %v, %q, %v, %v", x.name, a, key, b, ok)
		}
		if !ok && (!zero(a) || key != nil || !zero(b)) {
			t.Errorf("%s: Split is %v, %q, %v, %v", x.name, a, key, b, ok)
		}
	}
	for _, n := range []api.Node{
		{}, leaf(), leaf("a", "1"), leafOf(50), inner([]int{1, 2}, "a"), inner([]int{1, 2, 3}, "a", "b"), innerOf(27, 27),
		leaf("b", "1", "a", "2"), inner([]int{1, 2, 3, 4}, "a", "c", "b"), inner([]int{1, 2, 3, 1600}, "a", "b", "c"),
	} {
		if a, key, b, ok := node.Split(n); ok || !zero(a) || key != nil || !zero(b) {
			t.Errorf("Split(%v) is %v, %q, %v, %v", n, a, key, b, ok)
		}
	}
}

// P7.5, P7.7: halves of many nodes, by the chapter's words; Merge of them is the node.
func TestSplitMany(t *testing.T) {
	r := rand.New(rand.NewSource(10))
	for range 10000 {
		n := someNode(r, true, 2+r.Intn(20))
		halves(t, n, parted(n, 1))
		n = someNode(r, false, 3+r.Intn(20))
		halves(t, n, parted(n, 2))
	}
}

// P7.5: cells of few bytes and of many, all ways in which up to six can stand.
func TestSplitAll(t *testing.T) {
	ways := func(sizes []int, cells int, do func([]int)) {
		all := 1
		for range cells {
			all *= len(sizes)
		}
		for x := range all {
			l := make([]int, cells)
			for i := range l {
				l[i] = sizes[x%len(sizes)]
				x /= len(sizes)
			}
			do(l)
		}
	}
	for cells := 2; cells <= 6; cells++ {
		ways([]int{5, 10, 15, 50}, cells, func(l []int) {
			n := leafOf(l...)
			halves(t, n, parted(n, 1))
		})
		if cells >= 3 {
			ways([]int{5, 10, 15, 27}, cells, func(l []int) {
				n := innerOf(l...)
				halves(t, n, parted(n, 2))
			})
		}
	}
}

// P7.8: of a node of no more than 282 bytes both halves fit; so they do where the cells are as unlike as may be.
func TestHalvesFit(t *testing.T) {
	fit := func(n api.Node) {
		t.Helper()
		a, _, b, ok := node.Split(n)
		if !ok {
			return
		}
		for _, half := range []api.Node{a, b} {
			if _, e := node.Encode(half); e != api.OK || node.Size(half) > 232 {
				t.Fatalf("Split(%v) has a half of %d bytes: %v", n, node.Size(half), e)
			}
		}
	}
	r := rand.New(rand.NewSource(11))
	for range 20000 {
		fit(someSmall(r, true, 282))
		fit(someSmall(r, false, 282))
	}
	for k := range 40000 {
		isLeaf, left, sizes := k%2 == 0, 281, []int(nil)
		least, most := 4, 50
		if !isLeaf {
			least, most, left = 5, 27, 279
		}
		for left >= least {
			size := min(left, []int{least, most, most - 1, least + r.Intn(most-least+1)}[r.Intn(4)])
			sizes = append(sizes, size)
			left -= size
		}
		if isLeaf {
			fit(leafOf(sizes...))
		} else {
			fit(innerOf(sizes...))
		}
	}
}

// P7.8: a leaf that fits, and one Put: it fits, or both halves do.
func TestPutThenSplitFits(t *testing.T) {
	r := rand.New(rand.NewSource(12))
	parted := 0
	for range 10000 {
		n := someSmall(r, true, 232)
		key := someText(r, 1)
		got, ok := node.Put(n, key, someText(r, 0))
		if !ok || node.Size(got) > 282 {
			t.Fatalf("Put(%v, %q) is %v, %v", n, key, got, ok)
		}
		if node.Size(got) <= 232 {
			continue
		}
		parted++
		a, _, b, ok := node.Split(got)
		if !ok || node.Size(a) > 232 || node.Size(b) > 232 || node.Size(a) == 0 || node.Size(b) == 0 {
			t.Fatalf("Split(%v) is %v, %v, %v", got, a, b, ok)
		}
	}
	if parted < 300 {
		t.Errorf("only %d were parted", parted)
	}
}

// P7.6: two leaves, and two others; what stands between leaves plays no part.
func TestMerge(t *testing.T) {
	ones := innerOf(slices.Repeat([]int{27}, 9)...)
	for _, x := range []struct {
		name string
		a    api.Node
		key  string
		b    api.Node
		want api.Node
	}{
		{"two leaves", leaf("a", "1", "b", "2"), "c", leaf("c", "3"), leaf("a", "1", "b", "2", "c", "3")},
		{"two leaves, with no key between", leaf("a", "1"), "", leaf("b", "2"), leaf("a", "1", "b", "2")},
		{"two leaves, with a key of 25 bytes between", leaf("a", "1"), long(25, "b"), leaf("c", "2"), leaf("a", "1", "c", "2")},
		{"two leaves, with a key below both between", leaf("b", "1"), "a", leaf("c", "2"), leaf("b", "1", "c", "2")},
		{"two leaves, with a key above both between", leaf("b", "1"), "z", leaf("c", "2"), leaf("b", "1", "c", "2")},
		{"a leaf whose last key begins the next", leaf("a", "1"), "", leaf("a\x00", "2"), leaf("a", "1", "a\x00", "2")},
		{"an empty leaf ahead", leaf(), "a", leaf("a", "1"), leaf("a", "1")},
		{"an empty leaf behind", leaf("a", "1"), "b", leaf(), leaf("a", "1")},
		{"two empty leaves", leaf(), "", leaf(), leaf()},
		{"leaves of more than 232 bytes", leafOf(50, 50, 50, 50), "", leaf("\xff", long(24, "v"), "\xff\xff", ""), leafAnd(leafAnd(leafOf(50, 50, 50, 50), "\xff", long(24, "v")), "\xff\xff", "")},
		{"two others", inner([]int{1, 2}, "a"), "b", inner([]int{3, 4}, "c"), inner([]int{1, 2, 3, 4}, "a", "b", "c")},
		{"two others, unlike", inner([]int{1, 2, 1599}, "a", "aa"), "ab", inner([]int{0, 4}, "b"), inner([]int{1, 2, 1599, 0, 4}, "a", "aa", "ab", "b")},
		{"a key of 24 bytes between", inner([]int{1, 2}, "a"), long(24, "b"), inner([]int{3, 4}, "c"), inner([]int{1, 2, 3, 4}, "a", long(24, "b"), "c")},
		{"others of more than 232 bytes", ones, "\xfe", inner([]int{3, 4}, "\xff"), api.Node{Keys: append(slices.Clone(ones.Keys), []byte("\xfe"), []byte("\xff")), Kids: append(slices.Clone(ones.Kids), 3, 4)}},
	} {
		if got, ok := node.Merge(x.a, []byte(x.key), x.b); !ok || !same(got, x.want) {
			t.Errorf("%s: Merge is %v, %v, not %v", x.name, got, ok, x.want)
		}
	}
	many := leafOf(slices.Repeat([]int{4}, 500)...)
	a, b := api.Node{Leaf: true, Keys: many.Keys[:250], Vals: many.Vals[:250]}, api.Node{Leaf: true, Keys: many.Keys[250:], Vals: many.Vals[250:]}
	if got, ok := node.Merge(a, nil, b); !ok || !same(got, many) || node.Size(got) != 2001 {
		t.Errorf("Merge of 500 keys is %v, %v", got, ok)
	}
}

// noMerge holds that Merge is refused.
func noMerge(t *testing.T, name string, a api.Node, key string, b api.Node) {
	t.Helper()
	if got, ok := node.Merge(a, []byte(key), b); ok || !zero(got) {
		t.Errorf("%s: Merge(%v, %q, %v) is %v, %v", name, a, key, b, got, ok)
	}
}

// P7.6: no Merge of one of each kind, of what is not sound, or to what is not sound.
func TestMergeWrong(t *testing.T) {
	noMerge(t, "a leaf and another one", leaf("a", "1"), "b", inner([]int{1, 2}, "c"))
	noMerge(t, "another one and a leaf", inner([]int{1, 2}, "a"), "b", leaf("c", "1"))
	noMerge(t, "an empty leaf and another one", leaf(), "b", inner([]int{1, 2}, "c"))
	noMerge(t, "another one and an empty leaf", inner([]int{1, 2}, "a"), "b", leaf())
	noMerge(t, "leaves that fall", leaf("b", "1"), "", leaf("a", "2"))
	noMerge(t, "leaves that share a key", leaf("a", "1", "b", "2"), "", leaf("b", "2"))
	noMerge(t, "a leaf twice", leaf("a", "1"), "a", leaf("a", "1"))
	noMerge(t, "leaves that cross", leaf("a", "1", "c", "2"), "", leaf("b", "3", "d", "4"))
	noMerge(t, "a leaf that the other begins with", leaf("aa", "1"), "", leaf("a", "2"))
	c, d := inner([]int{1, 2}, "c"), inner([]int{3, 4}, "e")
	for _, x := range []struct{ name, key string }{
		{"no key between", ""}, {"a key of 25 bytes between", long(25, "d")}, {"a key of 256 bytes between", long(256, "d")},
		{"the one ahead again between", "c"}, {"the one behind ahead of itself", "e"},
		{"a key below both", "a"}, {"a key above both", "f"}, {"a key of no bytes but one too low", "\x00"},
	} {
		noMerge(t, x.name, c, x.key, d)
	}
	noMerge(t, "others that fall", d, "d", c)
	noMerge(t, "others that are alike", c, "c", c)
	for _, x := range nodes() {
		if x.size > 0 {
			continue
		}
		noMerge(t, x.name+", ahead of a leaf", x.n, "y", leaf("z", "1"))
		noMerge(t, x.name+", behind a leaf", leaf("\x00", "1"), "\x01", x.n)
		noMerge(t, x.name+", ahead of another one", x.n, "y", inner([]int{1, 2}, "z"))
		noMerge(t, x.name+", behind another one", inner([]int{1, 2}, "\x00"), "\x01", x.n)
		noMerge(t, x.name+", ahead of an empty leaf", x.n, "y", leaf())
		noMerge(t, x.name+", behind an empty leaf", leaf(), "\x01", x.n)
		noMerge(t, x.name+", twice", x.n, "y", x.n)
	}
}

// P7.6: what is not sound does not become so by what it is put together with.
func TestMergeMends(t *testing.T) {
	noMerge(t, "a value too many and one too few", api.Node{Leaf: true, Keys: leaf("a", "").Keys, Vals: [][]byte{nil, nil}}, "", api.Node{Leaf: true, Keys: leaf("b", "").Keys})
	noMerge(t, "a kid too many and one too few", inner([]int{1, 2, 3}, "a"), "b", inner([]int{4}, "c"))
	noMerge(t, "no keys, one kid each", inner([]int{1}), "b", inner([]int{2}))
	noMerge(t, "no key in the first one", inner([]int{1}), "b", inner([]int{2, 3}, "c"))
	noMerge(t, "no key in the last one", inner([]int{1, 2}, "a"), "b", inner([]int{3}))
}

// P7.6: many pairs, by the chapter's words.
func TestMergeMany(t *testing.T) {
	r := rand.New(rand.NewSource(13))
	done := 0
	for k := range 20000 {
		whole := someNode(r, k%2 == 0, 3+r.Intn(8))
		i := 1 + r.Intn(len(whole.Keys)-2)
		a, b := api.Node{Leaf: whole.Leaf, Keys: whole.Keys[:i]}, api.Node{Leaf: whole.Leaf}
		if whole.Leaf {
			a.Vals, b.Keys, b.Vals = whole.Vals[:i], whole.Keys[i:], whole.Vals[i:]
		} else {
			a.Kids, b.Keys, b.Kids = whole.Kids[:i+1], whole.Keys[i+1:], whole.Kids[i+1:]
		}
		key := whole.Keys[i]
		if r.Intn(2) == 0 {
			key = someText(r, 0)
		}
		rises := whole.Leaf || string(a.Keys[i-1]) < string(key) && string(key) < string(b.Keys[0])
		want := api.Node{}
		if rises {
			want = api.Node{Leaf: whole.Leaf, Keys: slices.Clone(whole.Keys), Vals: whole.Vals, Kids: whole.Kids}
			if !whole.Leaf {
				want.Keys[i] = key
			}
			done++
		}
		if got, ok := node.Merge(a, key, b); ok != rises || !same(got, want) {
			t.Fatalf("Merge(%v, %q, %v) is %v, %v", a, key, b, got, ok)
		}
		noMerge(t, "the other way round", b, string(key), a)
	}
	if done < 10000 || done > 19000 {
		t.Errorf("%d of 20000 were done", done)
	}
}

// wild is a node of any lists, sound or not.
func wild(r *rand.Rand) api.Node {
	if r.Intn(3) == 0 {
		return someNode(r, r.Intn(2) == 0, r.Intn(8))
	}
	n := api.Node{Leaf: r.Intn(2) == 0}
	for range r.Intn(5) {
		n.Keys = append(n.Keys, bytes.Repeat([]byte{byte(r.Intn(3))}, r.Intn(27)))
	}
	for range r.Intn(5) {
		n.Vals = append(n.Vals, bytes.Repeat([]byte{'v'}, r.Intn(27)))
	}
	for range r.Intn(6) {
		n.Kids = append(n.Kids, r.Intn(1700)-50)
	}
	return n
}

// Rules: each call ends and none panics, at whatever nodes; an answer that is refused is zero, and one that is not is sound.
func TestEnds(t *testing.T) {
	r := rand.New(rand.NewSource(14))
	for range 50000 {
		n, m := wild(r), wild(r)
		key, val := bytes.Repeat([]byte{byte(r.Intn(3))}, r.Intn(27)), bytes.Repeat([]byte{'v'}, r.Intn(27))
		if node.Sound(n) != (node.Size(n) > 0) {
			t.Fatalf("%v: Sound is %v, Size %d", n, node.Sound(n), node.Size(n))
		}
		node.Find(n, key)
		node.Kid(n, key)
		a, ok1 := node.Put(n, key, val)
		b, ok2 := node.Delete(n, key)
		c, _, d, ok3 := node.Split(n)
		e, ok4 := node.Merge(n, key, m)
		for _, x := range []struct {
			n  api.Node
			ok bool
		}{{a, ok1}, {b, ok2}, {c, ok3}, {d, ok3}, {e, ok4}} {
			if x.ok != node.Sound(x.n) || !x.ok && !zero(x.n) {
				t.Fatalf("%v, %v, %q, %q: %v, %v", n, m, key, val, x.n, x.ok)
			}
		}
		if bytes, e := node.Encode(n); (e == api.OK) != (len(bytes) > 0) || (e == api.ErrForm) == node.Sound(n) {
			t.Fatalf("Encode(%v) is %x, %v", n, bytes, e)
		}
	}
	for range 50000 {
		b := make([]byte, r.Intn(300))
		r.Read(b)
		if len(b) > 0 {
			b[0] = byte(r.Intn(5))
		}
		agreed(t, true, b)
		agreed(t, false, b)
	}
}

// Rules, From arguments alone: what is told is the same again, whatever was asked between.
func TestAgain(t *testing.T) {
	all := nodes()
	first := told(all)
	slices.Reverse(all)
	told(all)
	slices.Reverse(all)
	if again := told(all); again != first {
		t.Error("what is told of the same is another")
	}
}

// told is all that is told of nodes, in order.
func told(all []sized) string {
	var s strings.Builder
	for _, x := range all {
		b, e := node.Encode(x.n)
		n, e2 := node.Decode(x.n.Leaf, b)
		fmt.Fprintln(&s, node.Sound(x.n), node.Size(x.n), b, e, n, e2)
		p, ok := node.Put(x.n, []byte("b"), []byte("v"))
		q, ok2 := node.Delete(x.n, []byte("a"))
		fmt.Fprintln(&s, p, ok, q, ok2)
		c, key, d, ok := node.Split(x.n)
		m, ok2 := node.Merge(c, key, d)
		fmt.Fprintln(&s, c, key, d, ok, m, ok2)
	}
	return s.String()
}
