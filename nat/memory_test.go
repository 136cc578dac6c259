package nat_test

import (
	"bytes"
	"testing"

	"stanchion/api"
)

// flip turns all bits of b.
func flip(b []byte) {
	for i := range b {
		b[i] ^= 255
	}
}

// Rules, Memory: what is handed in is not changed, its spare room included, whatever the answer.
func TestNothingIsWritten(t *testing.T) {
	r := draw(51)
	for i := range 200 {
		d := dressed(r, flows()[i%4])
		room := append(d.lay(), text(60, 52)...)
		size := len(room) - 60
		before := bytes.Clone(room)
		for _, n := range []int{0, 1, 19, 20, 39, 40, size - 1, size, size + 1, len(room)} {
			for _, w := range ways() {
				w.do(room[:n], address(r, d.flow.Src.Six), port(r))
				w.do(room[:n], address(r, !d.flow.Src.Six), port(r))
				w.do(room[:n], address(r, d.flow.Src.Six), 0)
			}
		}
		if !bytes.Equal(room, before) {
			t.Error("the bytes, or what lies beside them, are changed")
		}
	}
}

// Rules, Memory: spare room behind the bytes is no part of them, and is not summed.
func TestSpareRoomDoesNotTell(t *testing.T) {
	r := draw(53)
	for i := range 400 {
		d := dressed(r, flows()[i%4])
		b, a, n := d.lay(), address(r, d.flow.Src.Six), port(r)
		for _, w := range ways() {
			room := append(bytes.Clone(b), text(100, r.Uint64())...)
			w.want(t, "with spare room", room[:len(b)], a, n, d.moved(w.end, a, n).lay(), api.OK)
			size := r.IntN(len(b))
			w.wantErr(t, "not all of it", room[:size], a, n, api.ErrShort)
			got, _ := w.do(room[:len(b)], a, n)
			if bytes.HasPrefix(got[len(b):cap(got)], room[len(b):len(b)+4]) {
				t.Errorf("%s: the spare room is behind the answer", w.name)
			}
		}
	}
}

// Rules, Memory: what is told is new memory: not the packet's, not another one's, though nothing turns.
func TestNewMemory(t *testing.T) {
	for _, f := range flows() {
		for _, w := range ways() {
			for _, a := range []api.Addr{f.Src, f.Dst} {
				for _, n := range []uint16{f.SrcPort, f.DstPort} {
					newMemory(t, w, plain(f, 2, 9, text(33, 54)).lay(), a, n)
				}
			}
		}
	}
}

// newMemory turns all bytes of one answer, and then of the packet: no others turn.
func newMemory(t *testing.T, w way, b []byte, a api.Addr, n uint16) {
	t.Helper()
	was := bytes.Clone(b)
	one, _ := w.do(b, a, n)
	two, _ := w.do(b, a, n)
	want := bytes.Clone(two)
	flip(one[:cap(one)])
	if !bytes.Equal(two, want) || !bytes.Equal(b, was) {
		t.Errorf("%s: an answer shares memory", w.name)
	}
	flip(b[:cap(b)])
	if !bytes.Equal(two, want) {
		t.Errorf("%s: an answer shares memory with the packet", w.name)
	}
}

// Rules, From arguments alone: what is told is of the arguments as they are at the call, whatever was called ahead of it.
func TestNothingIsKept(t *testing.T) {
	r := draw(55)
	for i := range 500 {
		for k, f := range flows() {
			d, other := dressed(r, f), dressed(r, flows()[(k+1)%4])
			for _, w := range ways() {
				w.do(text(30, uint64(i)), f.Src, 1)
				w.do(other.lay(), other.flow.Dst, 9)
				w.do(d.lay(), address(r, f.Src.Six), 0)
				w.moves(t, "as it is now", d, address(r, f.Src.Six), port(r))
			}
		}
	}
}
