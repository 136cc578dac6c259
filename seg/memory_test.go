package seg_test

import (
	"bytes"
	"testing"

	"stanchion/api"
	"stanchion/seg"
)

// flip turns all bits of b.
func flip(b []byte) {
	for i := range b {
		b[i] ^= 255
	}
}

// Rules, Memory: what is handed in is not changed, its spare room included, whatever the answer.
func TestNothingIsWritten(t *testing.T) {
	r := draw(71)
	zero := sound
	zero.Zero = true
	for _, h := range heads() {
		for n := 5; n <= 15; n++ {
			room := append(segment(r, h, n, 101), text(60, 72)...)
			before := bytes.Clone(room)
			for _, b := range [][]byte{room[:101], room[:102], room[:100], room[:20], room[:8], room[:0], room[20:120], room} {
				seg.Read(h, b)
				seg.Write(h, sound, b)
				seg.Write(h, zero, b)
				seg.Write(h, api.Seg{}, b)
				seg.Write(api.Head{}, sound, b)
			}
			if !bytes.Equal(room, before) {
				t.Error("the bytes, or what lies beside them, are changed")
			}
		}
		long := text(3000, 73)
		before := bytes.Clone(long)
		seg.Write(h, sound, long[:1900])
		seg.Write(h, sound, long[:1901])
		seg.Read(h, long)
		if !bytes.Equal(long, before) {
			t.Error("long bytes are changed")
		}
	}
}

// P15.2: spare room behind the bytes is no part of them, though it goes on as they should.
func TestSpareRoomDoesNotTell(t *testing.T) {
	r := draw(74)
	for _, h := range heads() {
		for n := 5; n <= 15; n++ {
			room := segment(r, h, n, 120)
			for size := range 121 {
				s, e := slowRead(h, bytes.Clone(room[:size]))
				wantRead(t, "with spare room", h, room[:size], s, e)
				if size >= 20 {
					b := room[:size]
					if h.Proto == 17 {
						b = put2(b, 4, size)
					}
					b = append(summed(h, b), text(70, 75)...)
					s, e = slowRead(h, bytes.Clone(b[:size]))
					wantRead(t, "with spare room", h, b[:size], s, e)
					if e == api.OK != (h.Proto == 17 || size >= 4*n) {
						t.Errorf("%d bytes, %d words: %d", size, n, e)
					}
				}
			}
		}
	}
}

// P15.3: spare room behind the data is not written behind it, nor summed.
func TestSpareRoomIsNotWritten(t *testing.T) {
	room := text(2000, 79)
	for _, h := range heads() {
		for _, size := range []int{0, 1, 2, 33, 1899, 1900} {
			asWrite(t, "with spare room", h, sound, room[:size])
			want, e := slowWrite(h, sound, bytes.Clone(room[:size]))
			wantWrite(t, "with spare room", h, sound, room[:size], want, e)
		}
	}
}

// Rules, Memory: a segment is new memory: not the data's, not another segment's.
func TestNewMemory(t *testing.T) {
	for _, size := range []int{0, 1, 44, 1900} {
		data := make([]byte, size, size+64)
		copy(data, text(size, 76))
		for _, h := range heads() {
			for _, zero := range []bool{false, true} {
				s := sound
				s.Zero = zero
				one, _ := seg.Write(h, s, data)
				two, _ := seg.Write(h, s, data)
				want := bytes.Clone(two)
				flip(one[:cap(one)])
				if !bytes.Equal(two, want) {
					t.Error("two segments share memory")
				}
				if !bytes.Equal(data, text(size, 76)) || !bytes.Equal(data[size:cap(data)], make([]byte, 64)) {
					t.Error("a segment shares memory with its data")
				}
				flip(data)
				if !bytes.Equal(two, want) {
					t.Error("a segment shares memory with its data")
				}
				flip(data)
			}
		}
	}
}

// Rules, Memory: data that is a piece of a segment may be written into another one.
func TestDataOfASegment(t *testing.T) {
	b, _ := seg.Write(tcp4, sound, text(40, 77))
	was := bytes.Clone(b)
	for _, h := range heads() {
		asWrite(t, "a piece", h, sound, b[20:])
		asWrite(t, "a piece", h, sound, b[:20])
		asWrite(t, "a piece", h, sound, b[10:30])
	}
	if !bytes.Equal(b, was) {
		t.Error("a segment is changed")
	}
}

// Rules, From arguments alone: what is told is of the bytes as they are at the call, whatever was called ahead of it.
func TestNothingIsKept(t *testing.T) {
	r := draw(78)
	for _, h := range heads() {
		b := segment(r, h, 6, 50)
		for i := range 500 {
			b[24+r.IntN(26)] = byte(i)
			b = summed(h, b)
			seg.Read(h, text(30, uint64(i)))
			seg.Pseudo(heads()[i%4], i)
			seg.Write(heads()[i%4], sound, b)
			if _, e := asRead(t, "as it is now", h, b); e != api.OK {
				t.Errorf("%x: %d", b, e)
			}
			asWrite(t, "as it is now", h, sound, b)
		}
	}
}
