package flow_test

import (
	"testing"

	"spigot/api"
	"spigot/flow"
)

func quantities() []int {
	return []int{0, 1, 2, 3, 10, 99, 1000003, mostQty - 1, mostQty}
}

func rates() []int {
	return []int{0, 1, 2, 3, 7, 1000, 2500, 3333, 5000, 9999, 10000}
}

func volumes() []int {
	return []int{0, 1, 2, 3, 9, 9999, 10000, 10001, 19999, 20000, 123456789, mostQty - 1, mostQty, mostQty + 1, 10000*mostQty - 1, 10000 * mostQty, 10000*mostQty + 1, 1 << 61, mostTotal - 1, mostTotal}
}

// P25.2: in numbers worked out by hand.
func TestTarget(t *testing.T) {
	for _, x := range []struct{ qty, rate, volume, want int }{
		// A part that comes out even, and what is one below it and one above it.
		{100, 2500, 4, 1}, {100, 2500, 3, 0}, {100, 2500, 5, 1}, {100, 2500, 88, 22}, {100, 2500, 87, 21}, {100, 2500, 91, 22}, {100, 2500, 92, 23},
		{100, 10000, 77, 77}, {100, 9999, 77, 76}, {100, 5000, 77, 38}, {100, 5000, 78, 39}, {100, 1, 10000, 1}, {100, 1, 9999, 0}, {100, 1, 19999, 1}, {100, 1, 20000, 2},
		{100, 3333, 3, 0}, {100, 3334, 3, 1}, {100, 3333, 10, 3}, {100, 9999, 10000, 100}, {10000, 9999, 10000, 9999}, {10000, 9999, 9999, 9998},
		// A part that is just the quantity, one below it, one above it.
		{22, 2500, 88, 22}, {22, 2500, 87, 21}, {22, 2500, 91, 22}, {22, 2500, 92, 22}, {23, 2500, 88, 22}, {21, 2500, 88, 21}, {77, 10000, 76, 76}, {77, 10000, 77, 77}, {77, 10000, 78, 77},
		// No quantity, no rate, no volume, and 1 of each.
		{0, 0, 0, 0}, {0, 10000, 50, 0}, {0, 10000, 1 << 62, 0}, {50, 0, 50, 0}, {50, 0, 1 << 62, 0}, {50, 10000, 0, 0}, {1, 10000, 1, 1}, {1, 1, 1, 0}, {1, 9999, 1, 0}, {1, 9999, 2, 1}, {1, 1, 1 << 62, 1},
		// The greatest quantity.
		{1 << 40, 10000, 1 << 40, 1 << 40}, {1 << 40, 10000, 1<<40 - 1, 1<<40 - 1}, {1 << 40, 10000, 1<<40 + 1, 1 << 40}, {1<<40 - 1, 10000, 1 << 40, 1<<40 - 1}, {1 << 40, 2500, 1 << 42, 1 << 40},
		{1 << 40, 2500, 1<<42 - 1, 1<<40 - 1}, {1 << 40, 1, 10000 << 40, 1 << 40}, {1 << 40, 1, 10000<<40 - 1, 1<<40 - 1}, {1 << 40, 1, 10000<<40 + 1, 1 << 40}, {1 << 40, 3, 1 << 50, 337769972052},
		// The greatest volume: its part of a greater rate than 1 has no room in 64 bits on its way.
		{1 << 40, 10000, 1 << 62, 1 << 40}, {1 << 40, 10000, 1<<62 - 1, 1 << 40}, {1 << 40, 1, 1 << 62, 1 << 40}, {1 << 40, 2, 1 << 62, 1 << 40}, {1 << 40, 3, 1 << 62, 1 << 40}, {1 << 40, 4, 1 << 62, 1 << 40},
		{1 << 40, 8, 1 << 62, 1 << 40}, {1 << 40, 16, 1 << 62, 1 << 40}, {1 << 40, 4096, 1 << 62, 1 << 40}, {1 << 40, 4, 1 << 61, 1 << 40}, {100, 4, 1 << 62, 100}, {5, 9999, 1<<62 - 1, 5},
	} {
		wantTarget(t, x.qty, x.rate, x.volume, x.want, api.OK)
	}
}

// P25.2: each is refused on its own, whatever the others are, as are several at once.
func TestTargetRefused(t *testing.T) {
	for _, qty := range append(outside(0, mostQty), mostTotal) {
		for _, rate := range rates() {
			for _, volume := range volumes() {
				wantTarget(t, qty, rate, volume, 0, api.ErrArg)
			}
		}
	}
	for _, rate := range append(outside(0, mostRate), 20000, 1<<32+1, mostTotal) {
		for _, qty := range quantities() {
			for _, volume := range volumes() {
				wantTarget(t, qty, rate, volume, 0, api.ErrArg)
			}
		}
	}
	for _, volume := range outside(0, mostTotal) {
		for _, qty := range quantities() {
			for _, rate := range rates() {
				wantTarget(t, qty, rate, volume, 0, api.ErrArg)
			}
		}
	}
	for _, qty := range outside(0, mostQty) {
		for _, rate := range outside(0, mostRate) {
			wantTarget(t, qty, rate, 90, 0, api.ErrArg)
			for _, volume := range outside(0, mostTotal) {
				wantTarget(t, qty, rate, volume, 0, api.ErrArg)
				wantTarget(t, 100, rate, volume, 0, api.ErrArg)
				wantTarget(t, qty, 2500, volume, 0, api.ErrArg)
			}
		}
	}
}

// P25.2: the ends of what may be, with each other.
func TestTargetsAtTheEnds(t *testing.T) {
	for _, qty := range append(quantities(), -1, mostQty+1) {
		for _, rate := range append(rates(), -1, mostRate+1) {
			for _, volume := range append(volumes(), -1, mostTotal+1) {
				want, e := plainTarget(qty, rate, volume)
				wantTarget(t, qty, rate, volume, want, e)
			}
		}
	}
}

// P25.2: each rate that may be.
func TestTargetsOfEachRate(t *testing.T) {
	for rate := range mostRate + 1 {
		wantTarget(t, mostQty, rate, 10000, rate, api.OK)
		wantTarget(t, mostQty, rate, 30000, 3*rate, api.OK)
		wantTarget(t, 5000, rate, 10000, min(rate, 5000), api.OK)
		wantTarget(t, mostQty, rate, 1, rate/mostRate, api.OK)
		wantTarget(t, mostQty, rate, 7777, 7777*rate/10000, api.OK)
		wantTarget(t, mostQty, rate, mostTotal, min(rate, 1)*mostQty, api.OK)
	}
}

// P25.2 and P25.3: all that there is in small numbers, wrong ones among them.
func TestTargetsOfSmallNumbers(t *testing.T) {
	for qty := -2; qty <= 25; qty++ {
		for _, rate := range []int{-2, -1, 0, 1, 399, 400, 401, 1249, 1250, 2500, 3333, 3334, 4999, 5000, 5001, 6667, 7500, 9999, 10000, 10001, 10002} {
			for volume := -2; volume <= 60; volume++ {
				want, e := plainTarget(qty, rate, volume)
				wantTarget(t, qty, rate, volume, want, e)
				if e == api.OK && (want > qty || want*10000 > volume*rate) {
					t.Fatalf("Target(%d, %d, %d) is %d, more than there is, or than the rate says", qty, rate, volume, want)
				}
			}
		}
	}
}

// P25.3: from each volume to the next one, and from each rate to the next one, a target doesn't fall.
func TestTargetsNeverFall(t *testing.T) {
	for _, qty := range quantities() {
		for _, rate := range rates() {
			was := 0
			for _, volume := range volumes() {
				was = wantNoLess(t, qty, rate, volume, was)
			}
		}
		for _, volume := range volumes() {
			was := 0
			for rate := range mostRate + 1 {
				was = wantNoLess(t, qty, rate, volume, was)
			}
		}
	}
	for _, rate := range rates() {
		was := 0
		for volume := range 25000 {
			was = wantNoLess(t, 1000, rate, volume, was)
		}
	}
}

// wantNoLess looks that a target is no less than it was, and tells it.
func wantNoLess(t *testing.T, qty, rate, volume, was int) int {
	t.Helper()
	n, e := flow.Target(qty, rate, volume)
	if e != api.OK || n < was {
		t.Fatalf("Target(%d, %d, %d): %d, %d; it was %d", qty, rate, volume, n, e, was)
	}
	wantNoMore(t, qty, rate, volume, n)
	return n
}

// wantNoMore looks that a target is not more of the volume than the rate says, nor more than there is.
func wantNoMore(t *testing.T, qty, rate, volume, n int) {
	t.Helper()
	ours, most := whole(n), whole(volume)
	if ours.Mul(ours, whole(mostRate)).Cmp(most.Mul(most, whole(rate))) > 0 || n > qty {
		t.Fatalf("Target(%d, %d, %d): %d, more than the rate says, or than there is", qty, rate, volume, n)
	}
}
