package inet_test

import (
	"bytes"
	"slices"
	"testing"

	"stanchion/inet"
)

// Rules, Memory: neither the bytes, nor the list of parts, nor the spare room of both is changed.
func TestNothingIsWritten(t *testing.T) {
	all := text(80, 91)
	before := bytes.Clone(all)
	list := [][]byte{all[8:21], nil, all[21:21], all[24:61], all[61:70], {9}}
	heads := slices.Clone(list)
	inet.Sum(list...)
	inet.Sum(list[:3]...)
	inet.Sum(list[:0]...)
	inet.Sum(all[8:41])
	inet.Good(list...)
	inet.Good(list[:2]...)
	inet.Good(all[:0])
	inet.Change(7, all[10:20], all[30:40])
	inet.Change(7, all[10:20], all[10:20])
	inet.Change(7, all[10:20], all[12:22])
	inet.Change(7, all[10:21], all[30:41])
	inet.Change(7, all[10:20], all[30:42])
	inet.Change(7, all[:0], all[80:])
	if !bytes.Equal(all, before) {
		t.Error("the bytes, or what lies beside them, are changed")
	}
	for i := range heads {
		if len(list[i]) != len(heads[i]) || cap(list[i]) != cap(heads[i]) {
			t.Errorf("part %d is another one", i)
		}
		if len(list[i]) > 0 && &list[i][0] != &heads[i][0] {
			t.Errorf("part %d lies elsewhere", i)
		}
	}
}

// P11.1, P11.2: spare room behind the bytes is no part of them.
func TestSpareRoomDoesNotTell(t *testing.T) {
	room := text(64, 92)
	for n := range len(room) + 1 {
		alone := bytes.Clone(room[:n])
		if got, want := inet.Sum(room[:n]), slowSum(alone); got != want {
			t.Errorf("Sum of %d bytes with spare room is %04x, not %04x", n, got, want)
		}
		if got, want := inet.Good(room[:n]), slowSum(alone) == 0; got != want {
			t.Errorf("Good of %d bytes with spare room is %v", n, got)
		}
		young := text(n, 93)
		if got, want := inet.Change(9, room[:n], young), slowChange(9, alone, young); got != want {
			t.Errorf("Change of %d bytes with spare room is %04x, not %04x", n, got, want)
		}
		if got, want := inet.Change(9, young, room[:n]), slowChange(9, young, alone); got != want {
			t.Errorf("Change to %d bytes with spare room is %04x, not %04x", n, got, want)
		}
	}
}

// P11.2: old and young may lie over one another: they are read alone.
func TestOverlap(t *testing.T) {
	b := text(40, 94)
	for at := range 20 {
		for n := 0; n <= 20; n += 2 {
			wantChange(t, slowChange(0x1234, bytes.Clone(b[:n]), bytes.Clone(b[at:at+n])), 0x1234, b[:n], b[at:at+n])
			wantSum(t, "parts over one another", slowSum(append(bytes.Clone(b[:n+1]), b[at:at+n]...)), b[:n+1], b[at:at+n])
		}
	}
}

// Rules, Memory and From arguments alone: nothing is kept: what is told is of the bytes as they are at the call, whatever was called ahead of it.
func TestNothingIsKept(t *testing.T) {
	b, young := text(41, 95), text(40, 96)
	parts := [][]byte{b[:13], b[13:]}
	for i := range 300 {
		b[i%41] += byte(i)
		young[i%40] ^= byte(i)
		inet.Sum([]byte{byte(i)})
		inet.Change(uint16(i), b[:1], b[:1])
		wantSum(t, "parts", slowSum(b), parts...)
		wantChange(t, slowChange(uint16(i), b[:40], young), uint16(i), b[:40], young)
	}
}
