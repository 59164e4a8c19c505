package pace_test

import (
	"math/rand/v2"
	"slices"
	"testing"

	"spigot/api"
	"spigot/pace"
)

// someNumber is from 0 to 2^40, of any length.
func someNumber(r *rand.Rand) int {
	if r.IntN(20) == 0 {
		return 1<<40 - r.IntN(2)
	}
	return r.IntN(1 << r.IntN(41))
}

// someSpan is of any length from 1 to MaxSpan, anywhere.
func someSpan(r *rand.Rand) span {
	long := 1 + r.IntN(1<<r.IntN(31))
	if r.IntN(10) == 0 {
		long = api.MaxSpan - r.IntN(2)
	}
	start := min(someNumber(r), api.MaxTime-long)
	return span{start, start + long}
}

// someTick is mostly within the span.
func (s span) someTick(r *rand.Rand) int {
	switch r.IntN(8) {
	case 0:
		return someNumber(r)
	case 1:
		return max(0, s.start-r.IntN(3))
	case 2:
		return min(api.MaxTime, s.end+r.IntN(3))
	}
	return s.start + r.IntN(s.end-s.start+1)
}

// someCurve is right, of any number of buckets, of weights of one length, some of them 0.
func someCurve(r *rand.Rand) []int {
	w := make([]int, 1+r.IntN(1+r.IntN(api.MaxBuckets)))
	most, noughts := 1<<r.IntN(21), r.IntN(3) // of 4
	for i := range w {
		if r.IntN(4) >= noughts {
			w[i] = r.IntN(most + 1)
		}
	}
	w[r.IntN(len(w))] = most
	return w
}

// some is one of a list.
func some(r *rand.Rand, list []int) int {
	return list[r.IntN(len(list))]
}

// P24.1 and P24.2: runs by chance of what is right, held against the chapters' words.
func TestPacesByChance(t *testing.T) {
	r := rand.New(rand.NewPCG(24, 1))
	between := 0
	for range 60000 {
		qty, s, w := someNumber(r), someSpan(r), someCurve(r)
		now := s.someTick(r)
		even, e := plainTwap(qty, s.start, s.end, now)
		wantTwap(t, qty, s.start, s.end, now, even, e)
		along, e := plainVwap(qty, w, s.start, s.end, now)
		wantVwap(t, qty, w, s.start, s.end, now, along, e)
		if even > 0 && even < qty && along > 0 && along < qty && even != along {
			between++
		}
	}
	if between < 5000 {
		t.Errorf("both paces were between their ends %d times only", between)
	}
}

// P24.1 and P24.2: runs by chance of which something may be wrong, or several things.
func TestErrorsByChance(t *testing.T) {
	r := rand.New(rand.NewPCG(24, 2))
	none := noCurves()
	met := map[api.Errno]int{}
	for range 60000 {
		qty, s, w := someNumber(r), someSpan(r), someCurve(r)
		now := s.someTick(r)
		for _, n := range []*int{&qty, &s.start, &s.end, &now} {
			if r.IntN(12) == 0 {
				*n = some(r, wrongs())
			}
		}
		if r.IntN(3) == 0 {
			s.end = some(r, []int{0, s.start - 1, s.start, s.start + 1, s.start + api.MaxSpan, s.start + api.MaxSpan + 1, api.MaxTime})
		}
		if r.IntN(3) == 0 {
			w = none[r.IntN(len(none))]
		}
		want, e := plainTwap(qty, s.start, s.end, now)
		wantTwap(t, qty, s.start, s.end, now, want, e)
		want, e = plainVwap(qty, w, s.start, s.end, now)
		wantVwap(t, qty, w, s.start, s.end, now, want, e)
		met[e]++
	}
	for _, e := range []api.Errno{api.OK, api.ErrArg, api.ErrTime, api.ErrCurve} {
		if met[e] < 1000 {
			t.Errorf("the answer %d was met %d times only", e, met[e])
		}
	}
}

// P24.4: from one now to the next neither pace falls, from nothing at the first tick to all at the last one.
func TestNeitherFalls(t *testing.T) {
	r := rand.New(rand.NewPCG(24, 3))
	for range 2000 {
		qty, s, w := someNumber(r), someSpan(r), someCurve(r)
		ticks := append(s.ticks(len(w)), 0, api.MaxTime)
		for range 30 {
			ticks = append(ticks, s.someTick(r))
		}
		slices.Sort(ticks)
		even, along := 0, 0
		for _, now := range ticks {
			n, e := pace.Twap(qty, s.start, s.end, now)
			if e != api.OK || n < even || n > qty {
				t.Fatalf("Twap(%d, %d, %d, %d): %d, %d, behind %d", qty, s.start, s.end, now, n, e, even)
			}
			m, e := pace.Vwap(qty, w, s.start, s.end, now)
			if e != api.OK || m < along || m > qty {
				t.Fatalf("Vwap(%d, %v, %d, %d, %d): %d, %d, behind %d", qty, w, s.start, s.end, now, m, e, along)
			}
			even, along = n, m
		}
		if even != qty || along != qty {
			t.Fatalf("of %d only %d and %d are out at the last tick, behind %d", qty, even, along, s.end)
		}
	}
}

// P24.4: at each tick of short spans neither pace falls.
func TestNeitherFallsTickByTick(t *testing.T) {
	for _, long := range []int{1, 2, 3, 7, 64, 100} {
		for _, w := range goodCurves() {
			for _, qty := range []int{0, 1, 7, 1000, api.MaxQty} {
				even, along := 0, 0
				for now := range long + 20 {
					n, _ := pace.Twap(qty, 10, 10+long, now)
					m, _ := pace.Vwap(qty, w, 10, 10+long, now)
					if n < even || m < along {
						t.Fatalf("of %d along %v from 10 to %d, %d and %d are out at %d, behind %d and %d", qty, w, 10+long, n, m, now, even, along)
					}
					even, along = n, m
				}
			}
		}
	}
}

// P24.4: along an even curve Vwap is Twap, of whatever weight, whatever number of buckets, whatever else.
func TestEvenCurveIsTwap(t *testing.T) {
	r := rand.New(rand.NewPCG(24, 4))
	for range 60000 {
		w := same(1+r.IntN(1<<r.IntN(21)), 1+r.IntN(api.MaxBuckets))
		qty, s := someNumber(r), someSpan(r)
		now := s.someTick(r)
		if r.IntN(10) == 0 {
			now = some(r, wrongs())
		}
		if r.IntN(10) == 0 {
			qty = some(r, wrongs())
		}
		n, e := pace.Twap(qty, s.start, s.end, now)
		wantVwap(t, qty, w, s.start, s.end, now, n, e)
	}
	for buckets := 1; buckets <= api.MaxBuckets; buckets++ {
		for now := range 40 {
			n, e := pace.Twap(1000, 3, 37, now)
			wantVwap(t, 1000, same(api.MaxWeight, buckets), 3, 37, now, n, e)
		}
	}
}

// P24.3 and P24.4: runs by chance of goals, held against the chapter's words; a goal is its target at least, less than a lot above it, and on the lot or the quantity.
func TestGoalByChance(t *testing.T) {
	r := rand.New(rand.NewPCG(24, 5))
	met := map[string]int{}
	for range 100000 {
		qty, lot := someNumber(r), 1+r.Int()>>r.IntN(63)
		target := min(qty, someNumber(r))
		switch r.IntN(16) {
		case 0:
			target = qty
		case 1:
			target -= target % lot
		case 2:
			target = some(r, append(wrongs(), qty+1))
		case 3:
			qty = some(r, wrongs())
		case 4:
			lot = some(r, []int{0, -1, leastInt, 1, greatestInt})
		}
		want, e := plainGoal(target, lot, qty)
		wantGoal(t, target, lot, qty, want, e)
		switch n, got := pace.Goal(target, lot, qty); {
		case got != api.OK:
			met["refused"]++
		case n < target || n-target >= lot || n > qty:
			t.Fatalf("Goal(%d, %d, %d): %d: not what P24.4 says", target, lot, qty, n)
		case n == target:
			met["just the target"]++
		case n%lot == 0:
			met["on the lot"]++
		case n == qty:
			met["the quantity"]++
		default:
			t.Fatalf("Goal(%d, %d, %d): %d: neither on the lot nor the quantity", target, lot, qty, n)
		}
	}
	for _, kind := range []string{"refused", "just the target", "on the lot", "the quantity"} {
		if met[kind] < 1000 {
			t.Errorf("a goal that is %s was met %d times only", kind, met[kind])
		}
	}
}

// P24.3 and P24.4: goals of both paces never fall either, and are the quantity at the end.
func TestGoalsOfPaces(t *testing.T) {
	r := rand.New(rand.NewPCG(24, 6))
	for range 2000 {
		qty, s, w, lot := someNumber(r), someSpan(r), someCurve(r), 1+r.IntN(1<<r.IntN(30))
		even, along := 0, 0
		for _, now := range append(s.ticks(len(w)), api.MaxTime) {
			n, _ := pace.Twap(qty, s.start, s.end, now)
			m, _ := pace.Vwap(qty, w, s.start, s.end, now)
			a, e := pace.Goal(n, lot, qty)
			b, e2 := pace.Goal(m, lot, qty)
			if e != api.OK || e2 != api.OK || a < even || b < along || a-n >= lot || b-m >= lot {
				t.Fatalf("of %d along %v from %d to %d by the lot %d the goals at %d are %d and %d", qty, w, s.start, s.end, lot, now, a, b)
			}
			even, along = a, b
		}
		if even != qty || along != qty {
			t.Fatalf("of %d only %d and %d are the last goals", qty, even, along)
		}
	}
}
