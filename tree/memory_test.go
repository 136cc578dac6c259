package tree_test

import (
	"bytes"
	"slices"
	"testing"
	"unsafe"

	"stanchion/api"
)

// place is a list's memory, its spare room included.
type place struct {
	name     string
	from, to uintptr
}

// placed is where l lies.
func placed[T any](name string, l []T) place {
	from := uintptr(unsafe.Pointer(unsafe.SliceData(l)))
	var x T
	return place{name, from, from + uintptr(cap(l))*unsafe.Sizeof(x)}
}

// apart holds that no two of these lists share memory.
func apart(t *testing.T, l []place) {
	t.Helper()
	for i, a := range l {
		for _, b := range l[i+1:] {
			if a.from < a.to && b.from < b.to && a.from < b.to && b.from < a.to {
				t.Fatalf("%s and %s share memory", a.name, b.name)
			}
		}
	}
}

// spare is what fills the spare room of what is handed in.
const spare = "spare room"

// roomy is s with spare room behind it, filled.
func roomy(s string) []byte {
	return append([]byte(s), spare...)[:len(s)]
}

// unchanged holds that what was handed in has the bytes of s still, and its spare room too; then all of it is spoilt, so that whoever kept it shows.
func unchanged(t *testing.T, name string, b []byte, s string) {
	t.Helper()
	if got := b[:len(s)+len(spare)]; string(got) != s+spare {
		t.Fatalf("%s was changed to %q", name, got)
	}
	spoil(b)
}

// spoil changes all bytes of b, its spare room included.
func spoil(b []byte) {
	for i := range b[:cap(b)] {
		b[:cap(b)][i] ^= 0xff
	}
}

// Memory: what is handed in is neither changed nor kept.
func TestHandedIn(t *testing.T) {
	for _, keys := range []int{0, 3, 5, 40, 150} {
		x := laid(t, 600, 64)
		for i := range keys {
			k, v := roomy(long(i)), roomy(value(i, 24))
			if e := x.tree.Put(k, v); e != api.OK {
				t.Fatal(e)
			}
			unchanged(t, "Put's key", k, long(i))
			unchanged(t, "Put's value", v, value(i, 24))
			x.model[long(i)] = value(i, 24)
		}
		x.told()
		for i := range keys + 1 {
			k := roomy(long(i))
			x.tree.Get(k)
			unchanged(t, "Get's key", k, long(i))
			from, to := roomy(long(i)), roomy(long(i+9))
			x.tree.Scan(from, to, 5)
			unchanged(t, "Scan's from", from, long(i))
			unchanged(t, "Scan's to", to, long(i+9))
		}
		x.told()
		for i := 0; i < keys+1; i += 2 {
			k := roomy(long(i))
			x.tree.Delete(k)
			unchanged(t, "Delete's key", k, long(i))
			delete(x.model, long(i))
		}
		x.told()
	}
}

// Memory: what is handed in is not changed where it is refused.
func TestHandedInRefused(t *testing.T) {
	x := grown(t, 2)
	k, v, tooLong := roomy(long(0)), roomy("v"), roomy(long(0)+"k")
	x.leave(0)
	x.tree.Put(k, v)
	x.tree.Delete(k)
	x.tree.Put(tooLong, v)
	x.tree.Put(k, tooLong)
	x.tree.Delete(tooLong)
	unchanged(t, "a key", k, long(0))
	unchanged(t, "a value", v, "v")
	unchanged(t, "a key that is too long", tooLong, long(0)+"k")
	x.told()
}

// Memory: no list of an answer shares memory with another one of it, with one of another answer, or with what was handed in; and what becomes of it changes nothing.
func TestAnswers(t *testing.T) {
	for _, keys := range []int{1, 4, 30} {
		x := laid(t, 200, 64)
		for i := range keys {
			x.put(long(i), value(i, 1+i%24))
		}
		from, to, k := roomy(long(0)), roomy(long(keys)), roomy(long(keys/2))
		places := []place{placed("from", from), placed("to", to), placed("key", k)}
		var answers [][]byte
		for range 2 {
			val, _, _ := x.tree.Get(k)
			answers = append(answers, val)
			places = append(places, placed("Get's value", val))
			l, _ := x.tree.Scan(from, to, keys)
			places = append(places, placed("Scan's pairs", l))
			for _, pair := range l[:cap(l)] {
				places = append(places, placed("a pair's key", pair.Key), placed("its value", pair.Val))
				answers = append(answers, pair.Key, pair.Val)
			}
			pages, _, _ := x.tree.Check()
			places = append(places, placed("Check's pages", pages))
		}
		apart(t, places)
		for _, b := range answers {
			spoil(b)
		}
		x.told()
	}
}

// Memory: what Check told may be changed, and what is told stays as it was when the tree changes.
func TestAnswersStay(t *testing.T) {
	x := grown(t, 3)
	pages, _, _ := x.tree.Check()
	was := slices.Clone(pages)
	val, _, _ := x.tree.Get([]byte(long(0)))
	l, _ := x.tree.Scan(nil, nil, 1000)
	want := pairs(x.model)
	kept := bytes.Clone(val)
	for _, key := range keysOf(x) {
		x.put(key, "other")
	}
	if !slices.Equal(pages, was) || !bytes.Equal(val, kept) || !samePairs(l, want) {
		t.Errorf("what was told has changed: %v, %q, %q", pages, val, l)
	}
	clear(pages[:cap(pages)])
	spoil(val)
	x.told()
}
