package ipfour_test

import (
	"bytes"
	"testing"

	"stanchion/api"
	"stanchion/ipfour"
)

// Rules, Memory: what is handed in is not changed, its spare room included, whatever the answer.
func TestNothingIsWritten(t *testing.T) {
	r := draw(71)
	for n := 5; n <= 15; n++ {
		room := append(packet(r, n, 100), text(60, 72)...)
		before := bytes.Clone(room)
		for _, b := range [][]byte{room[:100], room[:101], room[:99], room[:20], room[:0], room[20:120], room} {
			ipfour.Read(b)
			ipfour.Write(sound()[2], b)
			ipfour.Write(api.Head{}, b)
		}
		if !bytes.Equal(room, before) {
			t.Error("the bytes, or what lies beside them, are changed")
		}
	}
	long := text(3000, 73)
	before := bytes.Clone(long)
	ipfour.Write(sound()[2], long[:2028])
	ipfour.Write(sound()[2], long[:2029])
	ipfour.Read(long)
	if !bytes.Equal(long, before) {
		t.Error("long bytes are changed")
	}
}

// P13.1: spare room behind the bytes is no part of them.
func TestSpareRoomDoesNotTell(t *testing.T) {
	r := draw(74)
	for n := 5; n <= 15; n++ {
		room := packet(r, n, 120)
		for size := range 121 {
			h, e := slowRead(bytes.Clone(room[:size]))
			wantRead(t, "with spare room", room[:size], h, e)
			if size >= 20 {
				b := summed(sized(room[:size]), min(4*n, size))
				b = append(b, text(70, 75)...)
				h, e = slowRead(bytes.Clone(b[:size]))
				wantRead(t, "with spare room", b[:size], h, e)
			}
		}
	}
}

// Rules, Memory: a packet is new memory: not the data's, not another packet's.
func TestNewMemory(t *testing.T) {
	for _, size := range []int{0, 1, 44, 2028} {
		data := make([]byte, size, size+64)
		copy(data, text(size, 76))
		for _, h := range sound() {
			one, _ := ipfour.Write(h, data)
			two, _ := ipfour.Write(h, data)
			want := bytes.Clone(two)
			whole := one[:cap(one)]
			for i := range whole {
				whole[i] ^= 255
			}
			if !bytes.Equal(two, want) {
				t.Error("two packets share memory")
			}
			if !bytes.Equal(data, text(size, 76)) || !bytes.Equal(data[size:cap(data)], make([]byte, 64)) {
				t.Error("a packet shares memory with its data")
			}
			for i := range data {
				data[i] ^= 255
			}
			if !bytes.Equal(two, want) {
				t.Error("a packet shares memory with its data")
			}
			for i := range data {
				data[i] ^= 255
			}
		}
	}
}

// Rules, Memory: data that is a piece of a packet may be written into another one.
func TestDataOfAPacket(t *testing.T) {
	b, _ := ipfour.Write(sound()[2], text(40, 77))
	asWrite(t, sound()[3], b[20:])
	asWrite(t, sound()[3], b[:20])
	asWrite(t, sound()[3], b[10:30])
	wantRead(t, "the packet as it was", b, api.Head{Proto: 6, At: 20, Src: four(1, 2, 3, 4), Dst: four(5, 6, 7, 8), Hops: 64}, api.OK)
}

// Rules, From arguments alone: what is told is of the bytes as they are at the call, whatever was called ahead of it.
func TestNothingIsKept(t *testing.T) {
	r := draw(78)
	b := packet(r, 6, 50)
	for i := range 500 {
		b[r.IntN(50)] = byte(i)
		b[0], b[8] = 0x46, byte(i)|1
		b[6] &= 0x7f
		b = summed(sized(b), 24)
		ipfour.Read(text(30, uint64(i)))
		ipfour.Write(sound()[i%4], b)
		asRead(t, "as it is now", b)
		asWrite(t, sound()[i%4], b)
	}
}
