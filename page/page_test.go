package page_test

import (
	"bytes"
	"encoding/binary"
	"encoding/hex"
	"hash/crc32"
	"math"
	"math/rand"
	"reflect"
	"strings"
	"testing"

	"stanchion/api"
	"stanchion/page"
)

// castagnoli makes the library's sums those of the document.
var castagnoli = crc32.MakeTable(crc32.Castagnoli)

// text is n bytes of seed that are none of them 0, so that a Body is told from what stands behind it.
func text(n int, seed int64) []byte {
	r := rand.New(rand.NewSource(seed))
	b := make([]byte, n)
	for i := range b {
		b[i] = byte(1 + r.Intn(255))
	}
	return b
}

// sealed is a copy of b whose sum is right.
func sealed(b []byte) []byte {
	b = bytes.Clone(b)
	s := crc32.Update(crc32.Checksum(b[:20], castagnoli), castagnoli, b[24:])
	binary.BigEndian.PutUint32(b[20:], s)
	return b
}

// written is a page's bytes as the document words them, by other means than the program's.
func written(no int, p api.Page) []byte {
	b := []byte{0x53, 0x54, 0x4e, 0x43, 1, byte(p.Kind)}
	b = binary.BigEndian.AppendUint16(b, uint16(len(p.Body)))
	b = binary.BigEndian.AppendUint32(b, uint32(no))
	b = binary.BigEndian.AppendUint64(b, p.Gen)
	b = append(b, 0, 0, 0, 0)
	b = append(b, p.Body...)
	return sealed(append(b, make([]byte, 256-len(b))...))
}

// encode is an Encode that must be done.
func encode(t *testing.T, no int, p api.Page) []byte {
	t.Helper()
	b, e := page.Encode(no, p)
	if e != api.OK || len(b) != 256 {
		t.Fatalf("Encode(%d, %v) is %v, %v", no, p, b, e)
	}
	return b
}

// same is whether two pages are, nil and empty Bodies alike.
func same(p, q api.Page) bool {
	return p.Kind == q.Kind && p.Gen == q.Gen && bytes.Equal(p.Body, q.Body)
}

// decode holds what Decode(no, b) answers against want.
func decode(t *testing.T, no int, b []byte, want api.Page) {
	t.Helper()
	if p, e := page.Decode(no, b); e != api.OK || !same(p, want) {
		t.Fatalf("Decode(%d, %x) is %v, %v, not %v", no, b, p, e, want)
	}
}

// refused holds the error of Decode(no, b) against want, and all beside it against the zero page.
func refused(t *testing.T, no int, b []byte, want api.Errno) {
	t.Helper()
	if p, e := page.Decode(no, b); e != want || !reflect.DeepEqual(p, api.Page{}) {
		t.Fatalf("Decode(%d, %x) is %v, %v, not %v", no, b, p, e, want)
	}
}

// P4.1, P4.2: the chapter's example, whole.
func TestEncodeExample(t *testing.T) {
	b := encode(t, 3, api.Page{Kind: api.PageLeaf, Gen: 7})
	head := "53544e43" + "01" + "01" + "0000" + "00000003" + "0000000000000007"
	if got := hex.EncodeToString(b[:20]); got != head {
		t.Errorf("it begins with %s, not %s", got, head)
	}
	whole := sealed(mustBytes(head + strings.Repeat("00", 236)))
	if !bytes.Equal(b, whole) {
		t.Errorf("it is %x, not %x", b, whole)
	}
}

// mustBytes is the bytes of s, which is in hexadecimal.
func mustBytes(s string) []byte {
	b, err := hex.DecodeString(s)
	if err != nil {
		panic(err)
	}
	return b
}

// P4.1: each field lies where the document says, its highest byte first.
func TestEncodePlaces(t *testing.T) {
	body := text(231, 1)
	p := api.Page{Kind: api.PageMap, Gen: 0x8182838485868788, Body: body}
	b := encode(t, 0x0539, p)
	for _, x := range []struct {
		name     string
		from, to int
		want     []byte
	}{
		{"the beginning", 0, 4, []byte{0x53, 0x54, 0x4e, 0x43}},
		{"the version", 4, 5, []byte{1}},
		{"the Kind", 5, 6, []byte{4}},
		{"how many bytes the Body has", 6, 8, []byte{0, 231}},
		{"the number", 8, 12, []byte{0, 0, 0x05, 0x39}},
		{"the Gen", 12, 20, []byte{0x81, 0x82, 0x83, 0x84, 0x85, 0x86, 0x87, 0x88}},
		{"the Body", 24, 255, body},
		{"what stands behind it", 255, 256, []byte{0}},
	} {
		if !bytes.Equal(b[x.from:x.to], x.want) {
			t.Errorf("%s is %x, not %x", x.name, b[x.from:x.to], x.want)
		}
	}
	others := append(bytes.Clone(b[:20]), b[24:]...)
	if got, want := binary.BigEndian.Uint32(b[20:24]), crc32.Checksum(others, castagnoli); got != want {
		t.Errorf("the sum is %08x, not %08x", got, want)
	}
}

// P4.1: the sum is that of all others, each of them, in order, what stands behind the Body included.
func TestEncodeSums(t *testing.T) {
	for _, x := range []struct {
		no int
		p  api.Page
	}{
		{3, api.Page{Kind: 1, Gen: 7}},
		{0, api.Page{Kind: 1}},
		{1599, api.Page{Kind: 4, Gen: math.MaxUint64, Body: text(232, 2)}},
		{1000, api.Page{Kind: 2, Gen: 1 << 63, Body: []byte{0}}},
		{16, api.Page{Kind: 3, Gen: 256, Body: make([]byte, 232)}},
	} {
		if b, want := encode(t, x.no, x.p), written(x.no, x.p); !bytes.Equal(b, want) {
			t.Errorf("Encode(%d, %v) is %x, not %x", x.no, x.p, b, want)
		}
	}
}

// P4.2: numbers from 0 to 1599, and no others.
func TestEncodeNumbers(t *testing.T) {
	p := api.Page{Kind: api.PageInner, Gen: 9, Body: []byte("body")}
	for no := range 1600 {
		if b := encode(t, no, p); !bytes.Equal(b, written(no, p)) {
			t.Fatalf("Encode(%d) is %x", no, b)
		}
	}
	for _, no := range []int{math.MinInt, -1600, -1, 1600, 1601, 65536, 1 << 32, 1<<32 + 3, math.MaxInt} {
		if b, e := page.Encode(no, p); b != nil || e != api.ErrArg {
			t.Errorf("Encode(%d) is %x, %v", no, b, e)
		}
	}
}

// P4.2: the Kinds from 1 to 4, and no others, those included whose lowest byte is a Kind.
func TestEncodeKinds(t *testing.T) {
	for kind := 1; kind <= 4; kind++ {
		if b := encode(t, 5, api.Page{Kind: kind}); b[5] != byte(kind) {
			t.Errorf("Kind %d is written %d", kind, b[5])
		}
	}
	for _, kind := range []int{math.MinInt, -255, -1, 0, 5, 6, 255, 256, 257, 260, 1<<32 + 1, math.MaxInt} {
		if b, e := page.Encode(5, api.Page{Kind: kind}); b != nil || e != api.ErrArg {
			t.Errorf("Encode of Kind %d is %x, %v", kind, b, e)
		}
	}
}

// P4.2: Bodies of up to 232 bytes, and no longer ones, those included whose length's lowest bytes are those of a shorter one.
func TestEncodeBodies(t *testing.T) {
	for n := range 233 {
		p := api.Page{Kind: api.PageLeaf, Gen: 1, Body: text(n, int64(n))}
		if b := encode(t, 7, p); !bytes.Equal(b, written(7, p)) {
			t.Fatalf("with a Body of %d bytes: %x", n, b)
		}
	}
	for _, n := range []int{233, 234, 256, 512, 65535, 65536, 65537, 65536 + 232} {
		p := api.Page{Kind: api.PageLeaf, Body: make([]byte, n)}
		if b, e := page.Encode(7, p); b != nil || e != api.ErrLong {
			t.Errorf("with a Body of %d bytes: %x, %v", n, b, e)
		}
	}
}

// P4.2: ErrArg comes ahead of ErrLong.
func TestEncodeFirstError(t *testing.T) {
	long := make([]byte, 233)
	for _, x := range []struct{ no, kind int }{{-1, 1}, {1600, 1}, {0, 0}, {0, 5}, {1600, 5}} {
		if b, e := page.Encode(x.no, api.Page{Kind: x.kind, Body: long}); b != nil || e != api.ErrArg {
			t.Errorf("Encode(%d) of Kind %d, too long, is %x, %v", x.no, x.kind, b, e)
		}
	}
}

// P4.3: the chapter's example, read.
func TestDecodeExample(t *testing.T) {
	p := api.Page{Kind: api.PageLeaf, Gen: 7}
	decode(t, 3, written(3, p), p)
}

// P4.3: each field is read where the document says, its highest byte first.
func TestDecodePlaces(t *testing.T) {
	p := api.Page{Kind: api.PageSuper, Gen: 0x8182838485868788, Body: text(231, 3)}
	decode(t, 0x0539, written(0x0539, p), p)
	for kind := 1; kind <= 4; kind++ {
		p := api.Page{Kind: kind, Gen: math.MaxUint64, Body: []byte{0}}
		decode(t, 0, written(0, p), p)
	}
	for _, n := range []int{0, 1, 2, 231, 232} {
		p := api.Page{Kind: api.PageLeaf, Gen: uint64(n), Body: make([]byte, n)}
		decode(t, 1599, written(1599, p), p)
	}
}

// no is where good lies.
const no = 77

// good is the bytes of a page with a Body of 40 bytes.
func good() []byte {
	return written(no, api.Page{Kind: api.PageInner, Gen: 5, Body: text(40, 4)})
}

// but is a copy of b with other bytes from at on.
func but(b []byte, at int, by ...byte) []byte {
	b = bytes.Clone(b)
	copy(b[at:], by)
	return b
}

// P4.3: bytes that are not 256, too many included, are ErrShort.
func TestDecodeLengths(t *testing.T) {
	b := good()
	for n := range 256 {
		refused(t, no, b[:n:n], api.ErrShort)
		refused(t, no, b[:n], api.ErrShort)
	}
	for _, n := range []int{1, 2, 256, 65536} {
		refused(t, no, append(good(), make([]byte, n)...), api.ErrShort)
	}
	refused(t, no, nil, api.ErrShort)
	refused(t, no, []byte{}, api.ErrShort)
}

// P4.3: another beginning is ErrForm, whatever the sum, in each of its four bytes.
func TestDecodeBeginning(t *testing.T) {
	for at := range 4 {
		for by := 1; by < 256; by++ {
			b := but(good(), at, good()[at]^byte(by))
			refused(t, no, b, api.ErrForm)
			refused(t, no, sealed(b), api.ErrForm)
		}
	}
	refused(t, no, make([]byte, 256), api.ErrForm)
	refused(t, no, sealed(make([]byte, 256)), api.ErrForm)
}

// P4.3: each other version is ErrVersion, whatever the sum.
func TestDecodeVersion(t *testing.T) {
	for v := range 256 {
		if v != 1 {
			refused(t, no, but(good(), 4, byte(v)), api.ErrVersion)
			refused(t, no, sealed(but(good(), 4, byte(v))), api.ErrVersion)
		}
	}
}

// P4.3: another sum is ErrSum, in each of its bits; so are other bytes anywhere behind the version.
func TestDecodeSum(t *testing.T) {
	for at := 5; at < 256; at++ {
		for bit := range 8 {
			refused(t, no, but(good(), at, good()[at]^1<<bit), api.ErrSum)
		}
	}
	refused(t, no, but(good(), 20, 0, 0, 0, 0), api.ErrSum)
}

// P4.3: a Kind that is none is ErrForm, where the sum is right.
func TestDecodeKind(t *testing.T) {
	for kind := range 256 {
		b := sealed(but(good(), 5, byte(kind)))
		if kind >= 1 && kind <= 4 {
			decode(t, no, b, api.Page{Kind: kind, Gen: 5, Body: text(40, 4)})
		} else {
			refused(t, no, b, api.ErrForm)
		}
	}
}

// P4.3: a Body that would be too long is ErrForm, where the sum is right, also where the two bytes' lower one alone is not too much.
func TestDecodeLength(t *testing.T) {
	full := written(no, api.Page{Kind: api.PageLeaf, Gen: 5, Body: text(232, 5)})
	decode(t, no, full, api.Page{Kind: api.PageLeaf, Gen: 5, Body: text(232, 5)})
	for length := 233; length < 65536; length++ {
		if length < 1000 || length%251 == 0 || length > 65000 {
			refused(t, no, sealed(but(full, 6, byte(length>>8), byte(length))), api.ErrForm)
			refused(t, no, sealed(but(written(no, api.Page{Kind: 1}), 6, byte(length>>8), byte(length))), api.ErrForm)
		}
	}
}

// P4.3: a byte behind the Body that is not 0 is ErrForm, where the sum is right, wherever it stands; a byte 0 in the Body is not.
func TestDecodeBehind(t *testing.T) {
	for _, n := range []int{0, 1, 40, 230, 231} {
		b := written(no, api.Page{Kind: api.PageLeaf, Gen: 5, Body: text(n, 6)})
		for at := 24 + n; at < 256; at++ {
			refused(t, no, sealed(but(b, at, 1)), api.ErrForm)
			refused(t, no, sealed(but(b, at, 0x80)), api.ErrForm)
		}
	}
	body := but(text(40, 6), 39, 0)
	p := api.Page{Kind: api.PageLeaf, Gen: 5, Body: body}
	decode(t, no, written(no, p), p)
	refused(t, no, sealed(but(good(), 6, 0, 39)), api.ErrForm)
	decode(t, no, sealed(but(good(), 6, 0, 41)), api.Page{Kind: api.PageInner, Gen: 5, Body: append(text(40, 4), 0)})
}

// P4.3: a page that is read elsewhere, or where no page can be, is ErrArg.
func TestDecodeElsewhere(t *testing.T) {
	b := good()
	for other := -10; other < 1700; other++ {
		if other != no {
			refused(t, other, b, api.ErrArg)
		}
	}
	for _, other := range []int{math.MinInt, math.MaxInt, 1<<32 + no, 256 + no, 65536 + no, no - 1<<32} {
		refused(t, other, b, api.ErrArg)
	}
	// Bytes that say a number which is none are no page there either.
	for _, x := range []struct {
		no int
		by []byte
	}{
		{1600, []byte{0, 0, 6, 64}},
		{65536, []byte{0, 1, 0, 0}},
		{math.MaxUint32, []byte{255, 255, 255, 255}},
		{-1, []byte{255, 255, 255, 255}},
		{math.MinInt32, []byte{128, 0, 0, 0}},
		{1 << 31, []byte{128, 0, 0, 0}},
	} {
		refused(t, x.no, sealed(but(b, 8, x.by...)), api.ErrArg)
	}
	// Of the four bytes, the higher ones count as well.
	refused(t, no, sealed(but(b, 8, 1, 0, 0, no)), api.ErrArg)
	refused(t, no, sealed(but(b, 8, 0, 1, 0, no)), api.ErrArg)
	refused(t, no, sealed(but(b, 8, 0, 0, 1, no)), api.ErrArg)
	for _, edge := range []int{0, 1599} {
		p := api.Page{Kind: api.PageLeaf, Gen: 1, Body: []byte("edge")}
		decode(t, edge, written(edge, p), p)
		refused(t, edge-1, written(edge, p), api.ErrArg)
		refused(t, edge+1, written(edge, p), api.ErrArg)
	}
}

// fault is something that is wrong with bytes, or with where they are read, and what is told of it.
type fault struct {
	e  api.Errno
	do func(b []byte, at *int) []byte
}

// done is b and at with those faults that which has a bit for, the last of them first, and the error of the first of them.
func done(faults []fault, which int, b []byte, at *int, e api.Errno) ([]byte, api.Errno) {
	for i := len(faults) - 1; i >= 0; i-- {
		if which>>i&1 == 1 {
			b, e = faults[i].do(b, at), faults[i].e
		}
	}
	return b, e
}

// P4.3: of several faults, the first of the chapter's list is told, whichever of the others hold.
func TestDecodeFirstError(t *testing.T) {
	head := []fault{
		{api.ErrForm, func(b []byte, at *int) []byte { return but(b, 3, 0) }},
		{api.ErrVersion, func(b []byte, at *int) []byte { return but(b, 4, 2) }},
	}
	sum := fault{api.ErrSum, func(b []byte, at *int) []byte { return but(b, 20, b[20]^1) }}
	rest := []fault{
		{api.ErrForm, func(b []byte, at *int) []byte { return but(b, 5, 0) }},
		{api.ErrForm, func(b []byte, at *int) []byte { return but(b, 6, 0, 233) }},
		{api.ErrForm, func(b []byte, at *int) []byte { return but(b, 255, 1) }},
		{api.ErrArg, func(b []byte, at *int) []byte { return but(b, 8, 0, 0, 0, 1) }},
		{api.ErrArg, func(b []byte, at *int) []byte { *at = -1; return b }},
		{api.ErrArg, func(b []byte, at *int) []byte { *at = 1600; return b }},
	}
	for which := range 1 << (len(head) + len(rest)) {
		for wrongSum := range 2 {
			at := no
			b, want := done(rest, which>>len(head), good(), &at, api.OK)
			if wrongSum == 1 {
				want = sum.e
			}
			b, want = done(head, which, b, &at, want)
			// The sum is made right, or wrong, when all that it covers is in place.
			b, _ = done([]fault{sum}, wrongSum, sealed(b), &at, api.OK)
			if want == api.OK {
				decode(t, at, b, api.Page{Kind: api.PageInner, Gen: 5, Body: text(40, 4)})
			} else {
				refused(t, at, b, want)
			}
			refused(t, at, b[:255], api.ErrShort)
			refused(t, at, append(b, 0), api.ErrShort)
		}
	}
}

// somePage is a page that r picks: of any Kind, and of a Body of any length and bytes, the edges often.
func somePage(r *rand.Rand) (int, api.Page) {
	lengths := []int{0, 1, 231, 232, r.Intn(233), r.Intn(233)}
	body := make([]byte, lengths[r.Intn(len(lengths))])
	if r.Intn(4) > 0 {
		r.Read(body)
	}
	return r.Intn(1600), api.Page{Kind: 1 + r.Intn(4), Gen: r.Uint64() >> r.Intn(64), Body: body}
}

// P4.4: there and back, both ways, and as the document words the bytes.
func TestThereAndBack(t *testing.T) {
	r := rand.New(rand.NewSource(44))
	for range 20000 {
		at, p := somePage(r)
		b := encode(t, at, p)
		if !bytes.Equal(b, written(at, p)) {
			t.Fatalf("Encode(%d, %v) is %x", at, p, b)
		}
		q, e := page.Decode(at, b)
		if e != api.OK || !same(p, q) {
			t.Fatalf("Decode(%d) of Encode(%v) is %v, %v", at, p, q, e)
		}
		if again := encode(t, at, q); !bytes.Equal(again, b) {
			t.Fatalf("Encode of Decode(%d, %x) is %x", at, b, again)
		}
	}
}

// P4.4: whatever bytes are read as a page, writing it brings just those: no page has two forms.
func TestBackAndThere(t *testing.T) {
	r := rand.New(rand.NewSource(45))
	pages := 0
	for range 40000 {
		at, p := somePage(r)
		b := written(at, p)
		for range r.Intn(3) {
			b[4+r.Intn(252)] = byte(r.Intn(6))
		}
		b = sealed(b)
		q, e := page.Decode(at, b)
		if e != api.OK {
			continue
		}
		pages++
		if again := encode(t, at, q); !bytes.Equal(again, b) {
			t.Fatalf("Encode of Decode(%d, %x) is %x", at, b, again)
		}
	}
	if pages < 10000 {
		t.Errorf("only %d were pages", pages)
	}
}

// spoiltError is the error that is told of b, which was the page's bytes was.
func spoiltError(b, was []byte) api.Errno {
	switch {
	case !bytes.Equal(b[:4], was[:4]):
		return api.ErrForm
	case b[4] != was[4]:
		return api.ErrVersion
	}
	return api.ErrSum
}

// P4.5: each byte as each other byte.
func TestSpoiltByte(t *testing.T) {
	b := good()
	for at := range b {
		was := b[at]
		for by := 1; by < 256; by++ {
			b[at] = was ^ byte(by)
			refused(t, no, b, spoiltError(b, good()))
		}
		b[at] = was
	}
}

// P4.5: up to four bytes in a row, anywhere, that touch the sum or not, but not both the sum and another byte; also where the page is read at the number that it says then.
func TestSpoiltRow(t *testing.T) {
	r := rand.New(rand.NewSource(46))
	for range 40 {
		at, p := somePage(r)
		was := written(at, p)
		for n := 1; n <= 4; n++ {
			for from := 0; from+n <= 256; from++ {
				inside := from >= 20 && from+n <= 24
				outside := from+n <= 20 || from >= 24
				if !inside && !outside {
					continue
				}
				b := bytes.Clone(was)
				r.Read(b[from : from+n])
				b[from] = was[from] ^ byte(1+r.Intn(255))
				want := spoiltError(b, was)
				refused(t, at, b, want)
				refused(t, int(binary.BigEndian.Uint32(b[8:])), b, want)
			}
		}
	}
}

// P4.5: the number that a page says, made another by up to four bytes, does not make it a page of that sector.
func TestSpoiltNumber(t *testing.T) {
	for other := range 1600 {
		if other != no {
			b := but(good(), 8, 0, 0, byte(other>>8), byte(other))
			refused(t, other, b, api.ErrSum)
			refused(t, no, b, api.ErrSum)
		}
	}
}

// Encode neither changes nor keeps the Body, its spare room included, and each answer is new memory.
func TestEncodeMemory(t *testing.T) {
	for _, n := range []int{0, 1, 100, 232, 233} {
		room := text(600, 8)
		body := room[100 : 100+n]
		p := api.Page{Kind: api.PageLeaf, Gen: 3, Body: body}
		b, e := page.Encode(9, p)
		if !bytes.Equal(room, text(600, 8)) || len(p.Body) != n {
			t.Fatalf("with a Body of %d bytes: what was handed in is changed", n)
		}
		if e != api.OK {
			continue
		}
		want := written(9, p)
		other := encode(t, 9, p)
		fill(room, 0xaa)
		fill(other[:cap(other)], 0xbb)
		if !bytes.Equal(b, want) {
			t.Fatalf("with a Body of %d bytes: the answer shares memory", n)
		}
		fill(b[:cap(b)], 0xcc)
		if !bytes.Equal(room, bytes.Repeat([]byte{0xaa}, 600)) {
			t.Fatalf("with a Body of %d bytes: what was handed in is reached through the answer", n)
		}
		p.Body = text(600, 8)[100 : 100+n]
		if again := encode(t, 9, p); !bytes.Equal(again, want) {
			t.Fatalf("with a Body of %d bytes: Encode answers otherwise later", n)
		}
	}
}

// Decode neither changes nor keeps the bytes, their spare room included, and each answer is new memory.
func TestDecodeMemory(t *testing.T) {
	for _, n := range []int{0, 1, 100, 231, 232} {
		p := api.Page{Kind: api.PageLeaf, Gen: 3, Body: text(n, 9)}
		room := append(append(text(50, 10), written(9, p)...), text(50, 11)...)
		before := bytes.Clone(room)
		b := room[50:306]
		first, e1 := page.Decode(9, b)
		second, e2 := page.Decode(9, b)
		if e1 != api.OK || e2 != api.OK || !bytes.Equal(room, before) {
			t.Fatalf("with a Body of %d bytes: %v, %v, or what was handed in is changed", n, e1, e2)
		}
		fill(second.Body[:cap(second.Body)], 0xbb)
		fill(room, 0xaa)
		if !same(first, p) {
			t.Fatalf("with a Body of %d bytes: the answer shares memory", n)
		}
		fill(first.Body[:cap(first.Body)], 0xcc)
		if !bytes.Equal(room, bytes.Repeat([]byte{0xaa}, 356)) {
			t.Fatalf("with a Body of %d bytes: what was handed in is reached through the answer", n)
		}
		decode(t, 9, before[50:306], p)
	}
}

// Decode changes nothing of what it refuses.
func TestDecodeRefusedMemory(t *testing.T) {
	for _, b := range [][]byte{
		good()[:255], append(good(), 1), but(good(), 0, 1), but(good(), 4, 2), but(good(), 30, 0),
		sealed(but(good(), 5, 9)), sealed(but(good(), 6, 9, 9)), sealed(but(good(), 255, 9)), sealed(but(good(), 8, 9)),
	} {
		room := append(bytes.Clone(b), text(20, 12)...)
		before := bytes.Clone(room)
		if p, e := page.Decode(no, room[:len(b)]); e == api.OK || !reflect.DeepEqual(p, api.Page{}) {
			t.Errorf("%x is %v, %v", b, p, e)
		}
		if !bytes.Equal(room, before) {
			t.Errorf("%x is changed", b)
		}
	}
}

// fill makes all bytes of b x.
func fill(b []byte, x byte) {
	for i := range b {
		b[i] = x
	}
}
