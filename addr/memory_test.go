package addr_test

import (
	"bytes"
	"testing"

	"stanchion/addr"
)

// Rules, Memory: the bytes that Of is given, and their spare room, are not changed, and spare room is no part of them.
func TestOfChangesNothing(t *testing.T) {
	room := anyBytes(draw(71), 64)
	before := bytes.Clone(room)
	for at := range 40 {
		for n := range 24 {
			b := room[at : at+n]
			a, ok := addr.Of(b)
			if may := n == 4 || n == 16; ok != may {
				t.Errorf("Of %d bytes with spare room: %v", n, ok)
			} else if may && a != made(bytes.Clone(b)) {
				t.Errorf("Of(%v) is %v", b, a)
			}
		}
	}
	if !bytes.Equal(room, before) {
		t.Error("the bytes, or what lies beside them, are changed")
	}
}

// Rules, Memory: an address does not change with the bytes it was made of.
func TestOfKeepsNothing(t *testing.T) {
	for _, n := range []int{4, 16} {
		b := anyBytes(draw(72), n)
		want := made(bytes.Clone(b))
		a, _ := addr.Of(b)
		for i := range b {
			b[i]++
		}
		if a != want {
			t.Errorf("%v has become %v", want, a)
		}
		if x, ok := addr.Of(b); x != made(b) || !ok {
			t.Errorf("Of(%v) is %v, %v", b, x, ok)
		}
	}
}

// fill changes all bytes of b, and its spare room.
func fill(b []byte, x byte) {
	b = b[:cap(b)]
	for i := range b {
		b[i] = x
	}
}

// Rules, Memory: Bytes answers new memory each time, with nothing of another answer's in its spare room.
func TestBytesAreNew(t *testing.T) {
	for _, a := range append(goods(73, 20), bads(74, 5)...) {
		want := slowBytes(a)
		first := addr.Bytes(a)
		second := addr.Bytes(a)
		x, _ := addr.Of(bytes.Clone(second))
		third := addr.Bytes(x)
		fill(first, 0xa5)
		if !bytes.Equal(second, want) || !bytes.Equal(third, want) {
			t.Errorf("the bytes of %v share memory", a)
		}
		fill(second, 0x5a)
		fill(third, 0x3c)
		for _, x := range first {
			if x != 0xa5 {
				t.Errorf("the bytes of %v share memory", a)
				break
			}
		}
		if got := addr.Bytes(a); !bytes.Equal(got, want) {
			t.Errorf("Bytes(%v) is %v, after elder ones were written over", a, got)
		}
	}
}

// Rules, From arguments alone: what was called ahead, right or wrong, plays no part.
func TestNothingIsKept(t *testing.T) {
	l := append(goods(75, 20), bads(76, 5)...)
	for _, a := range l {
		for _, b := range l {
			addr.Parse(slowShow(b))
			addr.Parse(slowShow(b) + "x")
			addr.ParsePrefix(slowShow(b) + "/8")
			addr.Mask(b, 9)
			addr.Bytes(b)[0]++
			wantParse(t, slowShow(a))
			wantMask(t, a, 9)
			p, _ := slowMask(a, 9)
			wantShowPrefix(t, p)
			wantParsePrefix(t, slowShowPrefix(p))
			if got := addr.Show(a); got != slowShow(a) {
				t.Errorf("Show(%v) is %q", a, got)
			}
		}
	}
}
