package ipsix_test

import (
	"bytes"
	"testing"

	"stanchion/api"
	"stanchion/ipsix"
)

// Rules, Memory: what is handed in is not changed, its spare room included, whatever the answer.
func TestNothingIsWritten(t *testing.T) {
	r := draw(71)
	for _, l := range chains() {
		room := append(packet(r, l, 17, 20), text(60, 72)...)
		before := bytes.Clone(room)
		size := end(l) + 20
		for _, b := range [][]byte{room[:size], room[:size+1], room[:size-1], room[:40], room[:0], room[20:], room} {
			ipsix.Read(b)
			ipsix.Write(sound()[2], b)
			ipsix.Write(api.Head{}, b)
		}
		if !bytes.Equal(room, before) {
			t.Error("the bytes, or what lies beside them, are changed")
		}
	}
	long := text(3000, 73)
	before := bytes.Clone(long)
	ipsix.Write(sound()[2], long[:2008])
	ipsix.Write(sound()[2], long[:2009])
	ipsix.Read(long)
	if !bytes.Equal(long, before) {
		t.Error("long bytes are changed")
	}
}

// P14.1, P14.2: spare room behind the bytes is no part of them, though it goes on as they should.
func TestSpareRoomDoesNotTell(t *testing.T) {
	r := draw(74)
	for _, l := range chains() {
		room := packet(r, l, 6, 40)
		for size := range len(room) + 1 {
			h, e := slowRead(bytes.Clone(room[:size]))
			wantRead(t, "with spare room", room[:size], h, e)
			if size >= 40 {
				was := [2]byte(room[4:6])
				room[4], room[5] = byte((size-40)>>8), byte(size-40)
				h, e = slowRead(bytes.Clone(room[:size]))
				wantRead(t, "with spare room", room[:size], h, e)
				if e == api.OK != (size >= end(l)) {
					t.Errorf("%d bytes of %v: %d", size, l, e)
				}
				copy(room[4:6], was[:])
			}
		}
	}
}

// Rules, Memory: a packet is new memory: not the data's, not another packet's.
func TestNewMemory(t *testing.T) {
	for _, size := range []int{0, 1, 24, 2008} {
		data := make([]byte, size, size+64)
		copy(data, text(size, 76))
		for _, h := range sound() {
			one, _ := ipsix.Write(h, data)
			two, _ := ipsix.Write(h, data)
			want := bytes.Clone(two)
			flip(one[:cap(one)])
			if !bytes.Equal(two, want) {
				t.Error("two packets share memory")
			}
			if !bytes.Equal(data, text(size, 76)) || !bytes.Equal(data[size:cap(data)], make([]byte, 64)) {
				t.Error("a packet shares memory with its data")
			}
			flip(data)
			if !bytes.Equal(two, want) {
				t.Error("a packet shares memory with its data")
			}
			flip(data)
		}
	}
}

// flip turns all bits of b.
func flip(b []byte) {
	for i := range b {
		b[i] ^= 255
	}
}

// Rules, Memory: data that is a piece of a packet may be written into another one.
func TestDataOfAPacket(t *testing.T) {
	b, _ := ipsix.Write(sound()[2], text(40, 77))
	asWrite(t, sound()[3], b[40:])
	asWrite(t, sound()[3], b[:40])
	asWrite(t, sound()[3], b[10:60])
	want := sound()[2]
	want.At = 40
	wantRead(t, "the packet as it was", b, want, api.OK)
}

// Rules, From arguments alone: what is told is of the bytes as they are at the call, whatever was called ahead of it.
func TestNothingIsKept(t *testing.T) {
	r := draw(78)
	b := packet(r, []extra{{0, 0}, {44, 0}, {60, 1}}, 6, 20)
	for i := range 500 {
		b[8+r.IntN(len(b)-8)] = byte(i)
		b[7], b[40], b[41], b[48], b[56], b[57] = byte(i)|1, 44, 0, 60, 17, byte(i%2)
		ipsix.Read(text(60, uint64(i)))
		ipsix.Read(packet(r, repeat(extra{44, 0}, i%10), 6, 3))
		ipsix.Write(sound()[i%4], b)
		if _, e := asRead(t, "as it is now", b); e != api.OK {
			t.Errorf("%x: %d", b, e)
		}
		asWrite(t, sound()[i%4], b)
	}
}
