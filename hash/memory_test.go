package hash_test

import (
	"bytes"
	"slices"
	"testing"

	"stanchion/api"
	"stanchion/hash"
)

// Rules, Memory: neither the bytes, nor the list of parts, nor the spare room of both is changed.
func TestNothingIsWritten(t *testing.T) {
	all := text(80, 51)
	before := bytes.Clone(all)
	list := [][]byte{all[8:21], nil, all[21:21], all[24:61], all[61:70], {9}}
	heads := slices.Clone(list)
	for _, seed := range seeds() {
		hash.Sum(seed, list...)
		hash.Sum(seed, list[:3]...)
		hash.Sum(seed, list[:0]...)
		hash.Sum(seed, all[8:41])
		hash.Sum(seed, all[:0])
	}
	if !bytes.Equal(all, before) {
		t.Error("the bytes, or what lies beside them, are changed")
	}
	for i := range heads {
		if len(list[i]) != len(heads[i]) || cap(list[i]) != cap(heads[i]) {
			t.Errorf("part %d is another one", i)
		}
		if len(list[i]) > 0 && &list[i][0] != &heads[i][0] {
			t.Errorf("part %d lies elsewhere", i)
		}
	}
}

// Rules, Memory: spare room behind the bytes, and behind the parts, is no part of them.
func TestSpareRoomDoesNotTell(t *testing.T) {
	room := text(64, 52)
	list := [][]byte{room[:9], room[9:30], room[30:31], room[40:]}
	for _, seed := range seeds() {
		for n := range len(room) + 1 {
			want := slowSum(seed, bytes.Clone(room[:n])...)
			wantSum(t, "with spare room", want, seed, room[:n])
			wantSum(t, "without", want, seed, room[:n:n])
			wantSum(t, "with parts in one another's spare room", want, seed, room[:n/2], room[n/2:n])
		}
		for n := range len(list) + 1 {
			wantSum(t, "a list with spare room", slowSum(seed, slices.Concat(list[:n]...)...), seed, list[:n]...)
		}
	}
}

// Rules, Memory: parts may lie over one another: they are read alone.
func TestOverlap(t *testing.T) {
	b := text(40, 53)
	for at := range 20 {
		for n := range 21 {
			wantSum(t, "parts over one another", slowSum(5, slices.Concat(b[:n], b[at:at+n], b[:n])...), 5, b[:n], b[at:at+n], b[:n])
		}
	}
}

// Rules, From arguments alone: what is told is of the bytes as they are at the call, whatever was called ahead of it.
func TestNothingIsKept(t *testing.T) {
	r := draw(54)
	b := text(60, 55)
	for range 2000 {
		b[r.IntN(len(b))] = byte(r.Uint32())
		seed, cut := r.Uint64(), r.IntN(len(b))
		f, p := drawn(r), api.Prefix{Addr: address(r), Bits: r.IntN(129)}
		hash.Flow(r.Uint64(), drawn(r))
		hash.Sum(r.Uint64(), b[:cut])
		hash.Client(r.Uint64(), api.Prefix{Addr: address(r), Bits: r.IntN(129)})
		wantSum(t, "as they are now", slowSum(seed, b...), seed, b[:cut], b[cut:])
		wantFlow(t, seed, f)
		wantClient(t, seed, p)
		wantSum(t, "once more", slowSum(seed, b...), seed, b)
	}
}
