package store_test

import (
	"fmt"
	"math/rand"
	"testing"

	"stanchion/api"
)

// P9.7: all that a store tells, held against a map over many mixed calls, on devices with room and without.
func TestAsAMap(t *testing.T) {
	refused := 0
	for seed := range int64(24) {
		r := rand.New(rand.NewSource(seed))
		l := api.Limits{Frames: 8 + r.Intn(57), Batch: 1 + r.Intn(60), Delay: uint64(1 + r.Intn(30))}
		sectors := []int{16, 20, 40, 200, 1600}[r.Intn(5)]
		x := laid(t, sectors, l)
		for i := range 700 {
			refused += x.any(r, 10+r.Intn(60))
			x.counts()
			if i%23 == 0 {
				x.tells()
			}
			if i%101 == 0 {
				x.mount()
			}
			if x.pending == 0 {
				if n := x.s.Room(); n != x.room() {
					t.Fatalf("Room is %d, not %d", n, x.room())
				}
			}
		}
		x.tells()
		x.sync()
		x.lasts()
	}
	if refused < 50 {
		t.Errorf("just %d changes were refused", refused)
	}
}

// any is one call, any that may be, and tells how many changes were refused for want of room.
func (x *bench) any(r *rand.Rand, keys int) int {
	x.t.Helper()
	key := fmt.Sprintf("%0*d", 1+r.Intn(3)*8, r.Intn(keys))
	switch n := r.Intn(30); {
	case n < 14 && x.s.Room() > 0:
		x.put(key, value(r.Intn(99))[:r.Intn(25)])
	case n < 14:
		if e := x.s.Put([]byte(key), nil); e != api.ErrFull {
			x.t.Fatalf("Put(%q) is %v", key, e)
		}
		return 1
	case n < 24:
		_, is := x.model[key]
		if x.s.Room() > 0 || !is {
			x.del(key)
			break
		}
		if ok, e := x.s.Delete([]byte(key)); ok || e != api.ErrFull {
			x.t.Fatalf("Delete(%q) is %v, %v", key, ok, e)
		}
		return 1
	case n < 27:
		x.tick(uint64(int64(x.clock) + max(int64(r.Intn(12)-3), -int64(x.clock))))
	case n < 28:
		x.sync()
	default:
		x.someOf(r, key)
	}
	return 0
}

// someOf holds a Get and a Scan against the model.
func (x *bench) someOf(r *rand.Rand, key string) {
	x.t.Helper()
	want, is := x.model[key]
	if val, ok, e := x.s.Get([]byte(key)); string(val) != want || ok != is || e != api.OK {
		x.t.Fatalf("Get(%q) is %q, %v, %v", key, val, ok, e)
	}
	most := r.Intn(9)
	var l []api.Pair
	for _, p := range pairs(x.model) {
		if string(p.Key) >= key && len(l) < most {
			l = append(l, p)
		}
	}
	if got, e := x.s.Scan([]byte(key), nil, most); !samePairs(got, l) || e != api.OK {
		x.t.Fatalf("Scan(%q, none, %d) is %q, %v", key, most, got, e)
	}
}
