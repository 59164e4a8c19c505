package pace_test

import (
	"testing"

	"spigot/api"
)

// P24.2: between the ends, in numbers worked out by hand.
func TestVwap(t *testing.T) {
	full := same(api.MaxWeight, api.MaxBuckets)
	for _, x := range []struct {
		qty             int
		w               []int
		start, end, now int
		want            int
	}{
		// Just at a bucket's end, one ahead of it and one behind it.
		{10, []int{1, 3}, 0, 8, 4, 2}, {10, []int{1, 3}, 0, 8, 3, 1}, {10, []int{1, 3}, 0, 8, 5, 4},
		{16, []int{1, 3}, 10, 18, 14, 4}, {16, []int{1, 3}, 10, 18, 13, 3}, {16, []int{1, 3}, 10, 18, 15, 7}, {16, []int{1, 3}, 10, 18, 11, 1}, {16, []int{1, 3}, 10, 18, 17, 13},
		// Buckets of 3 and a half, of 2 and a third, of a half, of a third.
		{28, []int{1, 3}, 0, 7, 3, 6}, {28, []int{1, 3}, 0, 7, 4, 10}, {42, []int{1, 2, 3}, 0, 7, 2, 6}, {42, []int{1, 2, 3}, 0, 7, 3, 11}, {42, []int{1, 2, 3}, 0, 7, 5, 24},
		{10, []int{1, 2, 3, 4}, 0, 2, 1, 3}, {12, []int{1, 2, 3, 1, 2, 3}, 5, 7, 6, 6},
		// One weight is even.
		{10, []int{7}, 0, 3, 1, 3}, {10, []int{7}, 0, 3, 2, 6}, {10, []int{api.MaxWeight}, 0, 10, 7, 7},
		// Noughts ahead, behind, and between.
		{10, []int{0, 1}, 0, 8, 4, 0}, {10, []int{0, 1}, 0, 8, 5, 2}, {10, []int{0, 1}, 0, 8, 7, 7}, {10, []int{1, 0}, 0, 8, 3, 7}, {10, []int{1, 0}, 0, 8, 4, 10}, {10, []int{1, 0}, 0, 8, 7, 10},
		{10, []int{1, 0, 4}, 0, 9, 3, 2}, {10, []int{1, 0, 4}, 0, 9, 6, 2}, {10, []int{1, 0, 4}, 0, 9, 7, 4}, {10, []int{0, 0, 5}, 0, 9, 6, 0}, {10, []int{0, 0, 5}, 0, 9, 7, 3}, {10, []int{5, 0, 0}, 0, 9, 3, 10},
		// All buckets, the greatest weights, the greatest quantity, the longest span.
		{1 << 40, full, 0, 1 << 30, 1, 1 << 10}, {1 << 40, full, 0, 1 << 30, 1<<30 - 1, 1<<40 - 1<<10}, {1 << 40, full, 1<<40 - 1<<30, 1 << 40, 1<<40 - 1<<29, 1 << 39},
		{1 << 40, put(same(0, 64), 63, 1), 0, 1 << 30, 1<<30 - 1<<24, 0}, {1 << 40, put(same(0, 64), 63, 1), 0, 1 << 30, 1<<30 - 1<<24 + 1, 1 << 16},
		{1 << 40, put(same(0, 64), 0, 1), 0, 1 << 30, 1<<24 - 1, 1<<40 - 1<<16}, {1 << 40, put(same(0, 64), 0, 1), 0, 1 << 30, 1 << 24, 1 << 40},
		{1, full, 0, 1 << 30, 1<<30 - 1, 0}, {0, full, 0, 1 << 30, 1<<30 - 1, 0},
	} {
		wantVwap(t, x.qty, x.w, x.start, x.end, x.now, x.want, api.OK)
	}
}

// P24.2: about each bucket's end, of all curves over all spans, held against the chapters' words.
func TestVwapAboutBuckets(t *testing.T) {
	for _, s := range spans() {
		for _, w := range goodCurves() {
			for _, now := range s.ticks(len(w)) {
				for _, qty := range quantities() {
					want, e := plainVwap(qty, w, s.start, s.end, now)
					wantVwap(t, qty, w, s.start, s.end, now, want, e)
				}
			}
		}
	}
}

// P24.2: what is no curve is told at any time, also where the weights would not be asked for.
func TestVwapOfNoCurve(t *testing.T) {
	for _, w := range noCurves() {
		for _, s := range spans() {
			for _, now := range s.ticks(2) {
				for _, qty := range []int{0, 1, 10, api.MaxQty} {
					wantVwap(t, qty, w, s.start, s.end, now, 0, api.ErrCurve)
				}
			}
		}
	}
}

// P24.2: a weight of 0 and of MaxWeight may be at any place.
func TestVwapOfWeightsAtTheirEnds(t *testing.T) {
	for _, weight := range []int{0, 1, api.MaxWeight - 1, api.MaxWeight} {
		for _, curve := range [][]int{{1, 2, 3}, same(1, api.MaxBuckets), same(api.MaxWeight, api.MaxBuckets)} {
			for place := range curve {
				w := put(curve, place, weight)
				for _, now := range []int{0, 5, 6, 70, 133, 180, 196, 197, api.MaxTime} {
					want, e := plainVwap(1000000, w, 5, 197, now)
					if e != api.OK {
						t.Fatalf("%v is a curve", w)
					}
					wantVwap(t, 1000000, w, 5, 197, now, want, e)
				}
			}
		}
	}
}

// P24.2: all that there is in small numbers, wrong ones among them.
func TestVwapOfSmallNumbers(t *testing.T) {
	var lists [][]int
	for a := -1; a <= 2; a++ {
		lists = append(lists, []int{a})
		for b := -1; b <= 2; b++ {
			lists = append(lists, []int{a, b})
			for c := -1; c <= 2; c++ {
				lists = append(lists, []int{a, b, c})
			}
		}
	}
	for _, w := range append(lists, nil, []int{}) {
		for _, qty := range []int{-1, 0, 1, 2, 5, 12} {
			for start := -1; start <= 2; start++ {
				for end := -1; end <= 8; end++ {
					for now := -1; now <= 9; now++ {
						want, e := plainVwap(qty, w, start, end, now)
						wantVwap(t, qty, w, start, end, now, want, e)
					}
				}
			}
		}
	}
}
