package ipsix_test

import (
	"bytes"
	"testing"

	"stanchion/api"
	"stanchion/ipsix"
)

// wantEnd holds what Read tells of b against what is carried, and from where on.
func wantEnd(t *testing.T, what string, b []byte, proto byte, at int) {
	t.Helper()
	h, e := asRead(t, what, b)
	if e != api.OK || h.Proto != proto || h.At != at {
		t.Errorf("%s: %d at %d, error %d, not %d at %d", what, h.Proto, h.At, e, proto, at)
	}
}

// chains are heads between, of each kind, one and several, up to as many as there may be.
func chains() [][]extra {
	l := [][]extra{nil}
	for _, kind := range kinds() {
		for more := range byte(4) {
			l = append(l, []extra{{kind, more}})
		}
		for n := 2; n <= 8; n++ {
			l = append(l, repeat(extra{max(kind, 43), byte(n % 3)}, n))
			l = append(l, append([]extra{{kind, 1}}, repeat(extra{60, 0}, n-1)...))
			l = append(l, append(repeat(extra{43, 0}, n-1), extra{max(kind, 44), 2}))
		}
		for _, other := range kinds()[1:] {
			l = append(l, []extra{{kind, 0}, {other, 2}}, []extra{{kind, 3}, {other, 0}}, []extra{{kind, 1}, {60, 1}, {other, 1}})
		}
	}
	return append(l, []extra{{0, 0}, {60, 1}, {43, 2}, {44, 200}, {60, 0}, {44, 0}, {43, 0}, {60, 3}})
}

// P14.2: heads of each kind, one and several, with and without bytes behind them.
func TestBetween(t *testing.T) {
	r := draw(21)
	for _, l := range chains() {
		for _, data := range []int{0, 1, 7, 8, 9, 100} {
			for _, last := range []byte{6, 17, 58, 59, 255, 1} {
				wantEnd(t, "heads between", packet(r, l, last, data), last, end(l))
			}
		}
	}
}

// P14.2: a packet with heads between, cut off at each byte: what is behind them may be cut off, they may not.
func TestBetweenCutOff(t *testing.T) {
	r := draw(22)
	for _, l := range chains() {
		b := packet(r, l, 6, 11)
		whole, _ := slowRead(b)
		for size := 40; size <= len(b); size++ {
			if size < end(l) {
				wantErr(t, "cut off", sized(b[:size]), api.ErrShort)
			} else {
				wantRead(t, "cut off behind", sized(b[:size]), whole, api.OK)
			}
		}
	}
}

// P14.2: eight heads may be between, nine may not, of whatever kinds, however many more are behind, and whatever there is of the ninth.
func TestBetweenEightAndNine(t *testing.T) {
	r := draw(23)
	for first := range kinds() {
		for _, kind := range kinds()[1:] {
			for _, ninth := range kinds() {
				l := append([]extra{{kinds()[first], 0}}, repeat(extra{kind, 0}, 7)...)
				wantEnd(t, "eight", packet(r, l, 6, 0), 6, 104)
				wantEnd(t, "eight, and bytes", packet(r, l, 17, 20), 17, 104)
				for data := range 20 {
					wantErr(t, "nine", packet(r, l, ninth, data), api.ErrLong)
				}
				for n := 1; n < 5; n++ {
					wantErr(t, "more than nine", packet(r, append(l, repeat(extra{ninth, 0}, n)...), 6, 5), api.ErrLong)
				}
				wantErr(t, "a ninth of many bytes", packet(r, append(l, extra{ninth, 20}), 6, 0), api.ErrLong)
			}
		}
	}
	for n := range 30 {
		want := api.OK
		if n > 8 {
			want = api.ErrLong
		}
		if _, e := asRead(t, "a number of heads", packet(r, repeat(extra{44, 0}, n), 6, 1)); e != want {
			t.Errorf("%d heads: %d, not %d", n, e, want)
		}
	}
}

// P14.2: what a head that is passed errs comes ahead of what those behind it err.
func TestBetweenFirstError(t *testing.T) {
	r := draw(24)
	for n := 1; n <= 8; n++ {
		l := append(repeat(extra{43, 1}, n), repeat(extra{60, 0}, 12)...)
		b := packet(r, l, 6, 50)
		wantErr(t, "nine, but cut off", sized(b[:40+16*n-1]), api.ErrShort)
		if n < 8 {
			l[n].kind = 0
			b = packet(r, l, 6, 50)
			wantErr(t, "0 ahead of nine", b, api.ErrForm)
			wantErr(t, "0 cut off", sized(b[:40+16*n]), api.ErrForm)
			wantErr(t, "0 with one byte", sized(b[:40+16*n+1]), api.ErrForm)
			wantErr(t, "cut off ahead of 0", sized(b[:40+16*n-1]), api.ErrShort)
			b[40+16*n+1] = 255
			wantErr(t, "0 of more bytes than there are", b, api.ErrForm)
		}
	}
}

// P14.2: each number in byte 1 that has room, and those that have none, of each kind but 44, one head and behind others.
func TestBetweenSizes(t *testing.T) {
	r := draw(25)
	for _, kind := range []byte{0, 43, 60} {
		for _, ahead := range [][]extra{nil, {{60, 1}}, {{0, 2}, {44, 9}}} {
			if kind == 0 && ahead != nil {
				continue
			}
			for _, room := range []int{8, 9, 15, 16, 17, 100, 800, 1900, 1968, 2008} {
				at := end(ahead)
				if at+room > 2048 {
					continue
				}
				b := packet(r, append(ahead, extra{kind, 0}), 6, room-8)
				for more := range 256 {
					c := put(b, at+1, byte(more))
					if has := 8 + 8*more; has <= room {
						wantEnd(t, "there is room", c, 6, at+has)
					} else {
						wantErr(t, "there is none", c, api.ErrShort)
					}
				}
			}
			for more := 0; end(ahead)+8+8*more <= 2048; more++ {
				b := packet(r, append(ahead, extra{kind, byte(more)}), 17, 0)
				wantEnd(t, "just the room", b, 17, len(b))
				wantErr(t, "one byte too few", sized(b[:len(b)-1]), api.ErrShort)
				wantErr(t, "the first that has no room", put(b, end(ahead)+1, byte(more+1)), api.ErrShort)
			}
		}
	}
}

// P14.2: 0 may be told by byte 6 alone.
func TestBetweenZero(t *testing.T) {
	r := draw(26)
	for more := range byte(9) {
		wantEnd(t, "0 told by byte 6", packet(r, []extra{{0, more}}, 6, 3), 6, 48+8*int(more))
		for _, kind := range kinds() {
			wantErr(t, "0 told by another head", packet(r, []extra{{kind, more}, {0, 0}}, 6, 3), api.ErrForm)
			wantErr(t, "0 told by another head, nothing behind", packet(r, []extra{{kind, more}}, 0, 0), api.ErrForm)
			wantErr(t, "0 told by a third one", packet(r, []extra{{0, 0}, {kind, more}, {0, 0}}, 6, 3), api.ErrForm)
			wantErr(t, "0 told by an eighth one", packet(r, append(repeat(extra{44, 0}, 6), extra{max(kind, 43), more}, extra{0, 0}), 6, 3), api.ErrForm)
		}
	}
}

// P14.2: Part hangs on all bits of bytes 2 and 3 of a head of 44, but two: each number of them.
func TestBetweenParts(t *testing.T) {
	for _, x := range []struct {
		l  []extra
		at int
	}{
		{[]extra{{44, 0}}, 40},
		{[]extra{{43, 1}, {44, 99}}, 56},
		{[]extra{{0, 0}, {44, 0}, {60, 1}}, 48},
	} {
		b := packet(draw(27), x.l, 17, 9)
		want, e := asRead(t, "a packet", b)
		if e != api.OK {
			t.Fatal(e)
		}
		for n := range 1 << 16 {
			b[x.at+2], b[x.at+3] = byte(n>>8), byte(n)
			want.Part = n != 0 && n != 2 && n != 4 && n != 6
			if h, e := ipsix.Read(b); h != want || e != api.OK {
				t.Fatalf("bytes 2 and 3 %04x: %v, %d, not %v", n, h, e, want)
			}
		}
	}
}

// P14.2: no other byte of a head of 44, and none of another head, makes a part.
func TestBetweenNoParts(t *testing.T) {
	r := draw(28)
	for _, l := range [][]extra{{{44, 0}}, {{0, 1}, {60, 2}, {43, 1}, {44, 0}, {60, 0}}, {{0, 1}, {60, 2}, {43, 1}}, nil} {
		b := packet(r, l, 17, 30)
		at := 40
		for _, x := range l {
			if x.kind == 44 {
				b[at+2], b[at+3] = 0, 0
			}
			at += x.size()
		}
		want, e := asRead(t, "no part", b)
		if e != api.OK || want.Part {
			t.Fatalf("%v, %d", want, e)
		}
		for i := 40; i < len(b); i++ {
			for bit := range 8 {
				asRead(t, "another bit", put(b, i, b[i]^1<<bit))
			}
		}
		for i := at; i < len(b); i++ {
			wantRead(t, "another byte behind", put(b, i, 255), want, api.OK)
		}
	}
}

// P14.2: of several heads of 44 one is enough to make a part, whichever it is.
func TestBetweenSeveralParts(t *testing.T) {
	r := draw(29)
	for n := 1; n <= 8; n++ {
		for choice := range 1 << n {
			b := packet(r, repeat(extra{44, byte(choice)}, n), 6, 2)
			for i := range n {
				b[40+8*i+2], b[40+8*i+3] = 0, []byte{0, 2, 4, 6}[r.IntN(4)]
				if choice>>i&1 == 1 {
					b[40+8*i+2], b[40+8*i+3] = []byte{0, 128}[r.IntN(2)], []byte{1, 8, 16, 128}[r.IntN(4)]
				}
			}
			h, e := asRead(t, "several parts", b)
			if e != api.OK || h.Part != (choice != 0) || h.At != 40+8*n {
				t.Errorf("%d of %d: %v, %d", choice, n, h, e)
			}
		}
	}
}

// P14.2: a head of 44 has 8 bytes, whatever its byte 1 says, and whatever there is behind.
func TestBetweenPartSize(t *testing.T) {
	r := draw(30)
	for more := range 256 {
		for _, data := range []int{0, 1, 7, 8, 100, 2000} {
			wantEnd(t, "a head of 44", packet(r, []extra{{44, byte(more)}}, 6, data), 6, 48)
		}
		wantEnd(t, "a head of 44 ahead of another one", packet(r, []extra{{44, byte(more)}, {60, 1}}, 6, 9), 6, 64)
		wantEnd(t, "a head of 44 behind another one", packet(r, []extra{{60, 1}, {44, byte(more)}}, 6, 0), 6, 64)
		wantErr(t, "seven bytes of 44", sized(packet(r, []extra{{44, byte(more)}}, 6, 0)[:47]), api.ErrShort)
	}
}

// P14.2: behind a part's head further heads are passed, though they may be its data.
func TestBetweenBehindParts(t *testing.T) {
	b := packet(draw(31), []extra{{44, 0}, {60, 2}, {43, 0}}, 6, 9)
	b[42], b[43] = 0x10, 0
	h, e := asRead(t, "behind a part", b)
	if e != api.OK || !h.Part || h.At != 80 || h.Proto != 6 {
		t.Errorf("%v, %d", h, e)
	}
	wantErr(t, "cut off behind a part", sized(b[:60]), api.ErrShort)
	wantErr(t, "0 behind a part", put(b, 40, 0), api.ErrForm)
}

// P14.2: what is carried is told by the last head, each number of it, where bytes are behind it and where none are.
func TestBetweenCarried(t *testing.T) {
	r := draw(32)
	for _, l := range chains() {
		if len(l) > 3 && len(l) < 8 {
			continue
		}
		for last := range 256 {
			for _, data := range []int{0, 7, 30} {
				b := packet(r, l, byte(last), data)
				h, e := asRead(t, "what is carried", b)
				if !stands(byte(last)) && (e != api.OK || h.Proto != byte(last) || h.At != len(b)-data) {
					t.Errorf("%d behind %v: %v, %d", last, l, h, e)
				}
				if stands(byte(last)) && data < 8 && e == api.OK {
					t.Errorf("%d behind %v, and %d bytes: %v", last, l, data, h)
				}
			}
		}
	}
}

// P14.1, P14.2: what is carried tells nothing, though it looks like heads between, or like a packet.
func TestBetweenLooksLike(t *testing.T) {
	in := packet(draw(33), []extra{{0, 1}, {44, 0}}, 6, 9)
	for _, data := range [][]byte{in, bytes.Repeat([]byte{60, 0, 0, 0, 0, 0, 0, 0}, 20), bytes.Repeat([]byte{44, 44, 255, 255, 0, 0, 0, 0}, 20)} {
		for _, l := range [][]extra{nil, {{43, 1}}, repeat(extra{60, 0}, 8)} {
			b := append(packet(draw(34), l, 41, 0), data...)
			h, e := asRead(t, "it looks like heads", sized(b))
			if e != api.OK || h.Proto != 41 || h.At != end(l) || h.Part {
				t.Errorf("%v, %d", h, e)
			}
		}
	}
}
