package store_test

import (
	"bytes"
	"testing"
	"unsafe"

	"stanchion/api"
	"stanchion/store"
)

// place is a list's memory, its spare room included.
type place struct {
	name     string
	from, to uintptr
}

// placed is where l lies.
func placed[T any](name string, l []T) place {
	from := uintptr(unsafe.Pointer(unsafe.SliceData(l)))
	var x T
	return place{name, from, from + uintptr(cap(l))*unsafe.Sizeof(x)}
}

// apart holds that no two of these lists share memory.
func apart(t *testing.T, l []place) {
	t.Helper()
	for i, a := range l {
		for _, b := range l[i+1:] {
			if a.from < a.to && b.from < b.to && a.from < b.to && b.from < a.to {
				t.Fatalf("%s and %s share memory", a.name, b.name)
			}
		}
	}
}

// spare is what fills the spare room of what is handed in.
const spare = "spare room"

// roomy is s with spare room behind it, filled.
func roomy(s string) []byte {
	return append([]byte(s), spare...)[:len(s)]
}

// unchanged holds that what was handed in has the bytes of s still, and its spare room too; then all of it is spoilt, so that whoever kept it shows.
func unchanged(t *testing.T, name string, b []byte, s string) {
	t.Helper()
	if got := b[:len(s)+len(spare)]; string(got) != s+spare {
		t.Fatalf("%s was changed to %q", name, got)
	}
	spoil(b)
}

// spoil changes all bytes of b, its spare room included.
func spoil(b []byte) {
	for i := range b[:cap(b)] {
		b[:cap(b)][i] ^= 0xff
	}
}

// Memory: what is handed in is neither changed nor kept, pending or not, done or refused.
func TestHandedIn(t *testing.T) {
	x := laid(t, 400, api.Limits{Frames: 64, Batch: 7, Delay: 5})
	for i := range 60 {
		k, v := roomy(long(i)), roomy(value(i))
		if e := x.s.Put(k, v); e != api.OK {
			t.Fatal(e)
		}
		unchanged(t, "Put's key", k, long(i))
		unchanged(t, "Put's value", v, value(i))
		x.model[long(i)] = value(i)
		x.change()
	}
	x.tells()
	for i := range 61 {
		k, from, to := roomy(long(i)), roomy(long(i)), roomy(long(i+9))
		x.s.Get(k)
		unchanged(t, "Get's key", k, long(i))
		x.s.Scan(from, to, 5)
		unchanged(t, "Scan's from", from, long(i))
		unchanged(t, "Scan's to", to, long(i+9))
	}
	for i := 0; i < 61; i += 2 {
		k := roomy(long(i))
		if ok, e := x.s.Delete(k); ok != (i < 60) || e != api.OK {
			t.Fatal(ok, e)
		}
		unchanged(t, "Delete's key", k, long(i))
		if i < 60 {
			delete(x.model, long(i))
			x.change()
		}
	}
	x.tells()
	k, v := roomy(long(0)+"k"), roomy(value(0)+"v")
	x.s.Put(k, v)
	x.s.Delete(k)
	unchanged(t, "a key that is too long", k, long(0)+"k")
	unchanged(t, "a value that is too long", v, value(0)+"v")
	x.tells()
	x.d.Fail(api.FailFlush, 0)
	x.s.Sync()
	k, v = roomy(long(0)), roomy(value(0))
	x.s.Put(k, v)
	x.s.Delete(k)
	unchanged(t, "a failed store's key", k, long(0))
	unchanged(t, "a failed store's value", v, value(0))
}

// Memory: no list of an answer shares memory with another one of it, with one of another answer, or with what was handed in; and what becomes of it changes nothing.
func TestAnswers(t *testing.T) {
	for _, keys := range []int{1, 4, 30} {
		x := laid(t, 200, slow)
		for i := range keys {
			x.put(long(i), value(i))
			if i == keys/2 {
				x.sync()
			}
		}
		from, to, k := roomy(long(0)), roomy(long(keys)), roomy(long(keys/2))
		places := []place{placed("from", from), placed("to", to), placed("key", k)}
		var answers [][]byte
		for range 2 {
			val, _, _ := x.s.Get(k)
			answers = append(answers, val)
			places = append(places, placed("Get's value", val))
			l, _ := x.s.Scan(from, to, keys)
			places = append(places, placed("Scan's pairs", l))
			for _, pair := range l[:cap(l)] {
				places = append(places, placed("a pair's key", pair.Key), placed("its value", pair.Val))
				answers = append(answers, pair.Key, pair.Val)
			}
		}
		apart(t, places)
		for _, b := range answers {
			spoil(b)
		}
		x.tells()
		x.sync()
		x.lasts()
	}
}

// Memory: what was told stays as it was when the store changes, and when it fails.
func TestAnswersStay(t *testing.T) {
	x := filled(t, 200, 30, slow)
	l, _ := x.s.Scan(nil, nil, 1000)
	val, _, _ := x.s.Get([]byte(long(3)))
	u := x.s.Super()
	was, want := u, pairs(x.model)
	for i := range 30 {
		x.put(long(i), "other")
	}
	x.tick(9)
	x.sync()
	if !samePairs(l, want) || !bytes.Equal(val, []byte(value(3))) || u != was {
		t.Errorf("what was told has changed: %q, %q, %+v", l, val, u)
	}
}

// Two stores know nothing of one another.
func TestTwoStores(t *testing.T) {
	a, b := laid(t, 60, few), laid(t, 90, slow)
	for i := range 30 {
		a.put(long(i%10), value(i))
		b.put(long(i), value(i+1))
		a.tick(uint64(3 * i))
		b.tick(uint64(2 * i))
	}
	a.tells()
	b.tells()
	b.sync()
	a.d.Fail(api.FailWrite, 0)
	a.s.Sync()
	if !a.s.Failed() || b.s.Failed() {
		t.Error(a.s.Failed(), b.s.Failed())
	}
	b.put("b", "b")
	b.tells()
}

// A store of limits that were handed in stays as it was made, whatever becomes of these.
func TestLimitsKept(t *testing.T) {
	d := device(t, 40)
	l := few
	s, _ := store.Format(d, l)
	l.Batch, l.Delay = 1, 1
	s.Put([]byte("a"), nil)
	s.Tick(9)
	if s.Pending() != 1 {
		t.Error(s.Pending())
	}
}
