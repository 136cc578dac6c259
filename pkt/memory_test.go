package pkt_test

import (
	"bytes"
	"testing"

	"stanchion/api"
	"stanchion/pkt"
)

// flip turns all bits of b.
func flip(b []byte) {
	for i := range b {
		b[i] ^= 255
	}
}

// Rules, Memory: what is handed in is not changed, its spare room included, whatever the answer.
func TestNothingIsWritten(t *testing.T) {
	for _, f := range flows() {
		room := append(plain(f, 2, 9, text(30, 51)).lay(), text(60, 52)...)
		size := len(room) - 60
		before := bytes.Clone(room)
		for _, n := range []int{0, 1, 19, 20, 39, 40, size - 1, size, size + 1, len(room)} {
			pkt.Parse(room[:n])
			pkt.Build(f, 2, 9, room[:n])
			pkt.Build(f, 2, 0, room[:n])
			pkt.Build(api.Flow{}, 2, 9, room[:n])
		}
		if !bytes.Equal(room, before) {
			t.Error("the bytes, or what lies beside them, are changed")
		}
	}
	long := text(3000, 53)
	before := bytes.Clone(long)
	for _, f := range flows() {
		pkt.Build(f, 2, 9, long[:1900])
		pkt.Build(f, 2, 9, long[:1901])
		pkt.Parse(long)
	}
	if !bytes.Equal(long, before) {
		t.Error("long bytes are changed")
	}
}

// P16.1: spare room behind the bytes is no part of them, though it goes on as they should.
func TestSpareRoomDoesNotTell(t *testing.T) {
	r := draw(54)
	for _, f := range flows() {
		d := plain(f, 2, 9, text(40, 55))
		if f.Src.Six {
			d.between(r, extra{60, 0}, extra{44, 0})
		} else {
			d.options(r, 8)
		}
		b := d.lay()
		for size := range b {
			wantErr(t, "with spare room", b[:size], api.ErrShort)
			d.segEnd = size
			short := d.lay()
			p, e := slowParse(short)
			wantParse(t, "with spare room", append(short, text(100, 56)...)[:len(short)], p, e)
		}
		wantParse(t, "with spare room", append(b, text(100, 56)...)[:len(b)], d.packet(), api.OK)
	}
}

// P16.2: spare room behind the data is not in the packet, nor summed.
func TestSpareRoomIsNotBuilt(t *testing.T) {
	room := text(2000, 57)
	for _, f := range flows() {
		for _, size := range []int{0, 1, 2, 33, 1899, 1900} {
			want, e := slowBuild(f, 2, 9, bytes.Clone(room[:size]))
			wantBuild(t, "with spare room", f, 2, 9, room[:size], want, e)
		}
	}
}

// Rules, Memory: a packet is new memory: not the data's, not another packet's.
func TestNewMemory(t *testing.T) {
	for _, size := range []int{0, 1, 44, 1900} {
		data := make([]byte, size, size+64)
		copy(data, text(size, 58))
		for _, f := range flows() {
			one, _ := pkt.Build(f, 2, 9, data)
			two, _ := pkt.Build(f, 2, 9, data)
			want := bytes.Clone(two)
			flip(one[:cap(one)])
			if !bytes.Equal(two, want) {
				t.Error("two packets share memory")
			}
			if !bytes.Equal(data, text(size, 58)) || !bytes.Equal(data[size:cap(data)], make([]byte, 64)) {
				t.Error("a packet shares memory with its data")
			}
			flip(data)
			if !bytes.Equal(two, want) {
				t.Error("a packet shares memory with its data")
			}
			flip(data)
		}
	}
}

// Rules, Memory: what Parse tells stays when the bytes become others.
func TestPacketIsNotTheBytes(t *testing.T) {
	for _, f := range flows() {
		d := plain(f, 2, 9, text(9, 59))
		b := d.lay()
		p, e := pkt.Parse(b)
		flip(b)
		if p != d.packet() || e != api.OK {
			t.Errorf("%v, %d", p, e)
		}
	}
}

// Rules, Memory: data that is a piece of a packet, or a whole one, may be built into another one.
func TestDataOfAPacket(t *testing.T) {
	for _, inner := range flows() {
		b := plain(inner, 2, 9, text(30, 60)).lay()
		was := bytes.Clone(b)
		for _, f := range flows() {
			asBuild(t, "a packet", f, 2, 9, b)
			asBuild(t, "a piece", f, 2, 9, b[20:])
			asBuild(t, "a piece", f, 2, 9, b[:20])
		}
		if !bytes.Equal(b, was) {
			t.Error("a packet is changed")
		}
	}
}

// Rules, From arguments alone: what is told is of the arguments as they are at the call, whatever was called ahead of it.
func TestNothingIsKept(t *testing.T) {
	for i := range 500 {
		for k, f := range flows() {
			d := plain(f, byte(i), byte(i%255+1), text(i%40, uint64(i)))
			b := d.lay()
			pkt.Parse(text(30, uint64(i)))
			pkt.Build(flows()[(k+1)%4], byte(i), 1, b)
			pkt.Build(api.Flow{}, 0, 0, b)
			wantParse(t, "as it is now", b, d.packet(), api.OK)
			asBuild(t, "as it is now", f, byte(i), byte(i%255+1), text(i%40, uint64(i)))
		}
	}
}
