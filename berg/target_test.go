package berg_test

import (
	"slices"
	"testing"

	"spigot/api"
	"spigot/berg"
)

func quantities() []int {
	return []int{0, 1, 2, 3, 10, 99, 1000003, 1 << 32, mostQty - 1, mostQty}
}

func shows() []int {
	return []int{1, 2, 3, 7, 10, 98, 99, 100, 1000003, 1<<32 + 1, mostQty / 2, mostQty - 1, mostQty}
}

// fills is what of a quantity may be executed: its ends, its middle, and where what is shown begins to be less than show.
func fills(qty, show int) []int {
	var list []int
	for _, n := range []int{0, 1, 2, qty / 2, qty - show - 1, qty - show, qty - show + 1, qty - 2, qty - 1, qty} {
		if n >= 0 && n <= qty && !slices.Contains(list, n) {
			list = append(list, n)
		}
	}
	return list
}

// P26.1: in numbers worked out by hand.
func TestTarget(t *testing.T) {
	for _, x := range []struct{ qty, show, filled, want int }{
		// From nothing executed to all.
		{100, 30, 0, 30}, {100, 30, 1, 31}, {100, 30, 29, 59}, {100, 30, 30, 60}, {100, 30, 31, 61}, {100, 30, 50, 80}, {100, 30, 60, 90}, {100, 30, 98, 100}, {100, 30, 99, 100}, {100, 30, 100, 100},
		// Both together one below the quantity, just it, one above it.
		{100, 30, 69, 99}, {100, 30, 70, 100}, {100, 30, 71, 100}, {100, 30, 90, 100}, {7, 2, 4, 6}, {7, 2, 5, 7}, {7, 2, 6, 7}, {7, 2, 7, 7},
		// One at a time.
		{100, 1, 0, 1}, {100, 1, 1, 2}, {100, 1, 98, 99}, {100, 1, 99, 100}, {100, 1, 100, 100}, {1, 1, 0, 1}, {1, 1, 1, 1},
		// All at a time, one less, and more than there is.
		{100, 100, 0, 100}, {100, 100, 1, 100}, {100, 100, 99, 100}, {100, 100, 100, 100}, {100, 99, 0, 99}, {100, 99, 1, 100}, {100, 99, 2, 100}, {100, 99, 100, 100},
		{100, 101, 0, 100}, {100, 101, 1, 100}, {100, 101, 100, 100}, {100, 1 << 40, 0, 100}, {100, 1 << 40, 50, 100}, {100, 1 << 40, 100, 100}, {1, 1 << 40, 0, 1}, {1, 1 << 40, 1, 1}, {1, 2, 0, 1},
		// No quantity.
		{0, 1, 0, 0}, {0, 2, 0, 0}, {0, 1 << 40, 0, 0},
		// The greatest quantity.
		{1 << 40, 1, 0, 1}, {1 << 40, 1, 1, 2}, {1 << 40, 1, 1<<40 - 2, 1<<40 - 1}, {1 << 40, 1, 1<<40 - 1, 1 << 40}, {1 << 40, 1, 1 << 40, 1 << 40}, {1 << 40, 1 << 39, 1 << 39, 1 << 40}, {1 << 40, 1 << 39, 1<<39 - 1, 1<<40 - 1}, {1 << 40, 1 << 39, 1<<39 + 1, 1 << 40},
		{1 << 40, 1<<40 - 1, 0, 1<<40 - 1}, {1 << 40, 1<<40 - 1, 1, 1 << 40}, {1 << 40, 1 << 40, 0, 1 << 40}, {1 << 40, 1 << 40, 1, 1 << 40}, {1 << 40, 1 << 40, 1<<40 - 1, 1 << 40},
		{1<<40 - 1, 1 << 40, 0, 1<<40 - 1}, {1<<40 - 1, 1 << 40, 1<<40 - 1, 1<<40 - 1}, {1<<40 - 1, 1, 1<<40 - 2, 1<<40 - 1},
		// The greatest of all three.
		{1 << 40, 1 << 40, 1 << 40, 1 << 40},
	} {
		wantOut(t, x.qty, x.show, x.filled, x.want)
	}
}

// P26.1: in numbers worked out by hand.
func TestShown(t *testing.T) {
	for _, x := range []struct{ qty, show, filled, want int }{
		{100, 30, 0, 30}, {100, 30, 1, 30}, {100, 30, 50, 30}, {100, 30, 69, 30}, {100, 30, 70, 30}, {100, 30, 71, 29}, {100, 30, 90, 10}, {100, 30, 99, 1}, {100, 30, 100, 0},
		{100, 1, 0, 1}, {100, 1, 99, 1}, {100, 1, 100, 0}, {100, 100, 0, 100}, {100, 100, 1, 99}, {100, 101, 0, 100}, {100, 1 << 40, 40, 60}, {100, 1 << 40, 100, 0},
		{0, 1, 0, 0}, {0, 1 << 40, 0, 0}, {1, 1, 0, 1}, {1, 1, 1, 0}, {1, 1 << 40, 0, 1},
		{1 << 40, 1, 0, 1}, {1 << 40, 1, 1<<40 - 1, 1}, {1 << 40, 1, 1 << 40, 0}, {1 << 40, 1 << 40, 0, 1 << 40}, {1 << 40, 1 << 40, 1, 1<<40 - 1}, {1 << 40, 1 << 40, 1<<40 - 1, 1}, {1 << 40, 1 << 40, 1 << 40, 0}, {1 << 40, 5, 1<<40 - 5, 5}, {1 << 40, 5, 1<<40 - 4, 4},
	} {
		wantShown(t, x.qty, x.show, x.filled, x.want, api.OK)
	}
}

// P26.1: a quantity that may not be, whatever the others are.
func TestQuantityRefused(t *testing.T) {
	for _, qty := range append(outside(0, mostQty), -10, -2, 1<<62) {
		for _, show := range shows() {
			for _, filled := range append(quantities(), -1, qty/2, qty) {
				wantNoOut(t, qty, show, filled)
			}
		}
	}
}

// P26.1: a show that may not be, whatever the others are.
func TestShowRefused(t *testing.T) {
	for _, show := range append(outside(1, mostQty), -30, 0, 1<<62) {
		for _, qty := range quantities() {
			for _, filled := range fills(qty, 30) {
				wantNoOut(t, qty, show, filled)
			}
		}
	}
}

// P26.1: what can't be executed of a quantity, whatever the others are.
func TestFilledRefused(t *testing.T) {
	for _, qty := range quantities() {
		for _, show := range shows() {
			for _, filled := range append(outside(0, qty), -show-1, -show, -show+1, qty+show, mostQty+1, 1<<62) {
				if filled == 0 { // -show+1 of a show of 1
					continue
				}
				wantNoOut(t, qty, show, filled)
			}
		}
	}
}

// P26.1: several things are wrong at once.
func TestSeveralRefused(t *testing.T) {
	for _, qty := range append(outside(0, mostQty), 0, 100) {
		for _, show := range append(outside(1, mostQty), 0) {
			for _, filled := range append(outside(0, 100), 0, 50, 100, mostQty, mostQty+1) {
				wantNoOut(t, qty, show, filled)
			}
		}
		for _, show := range []int{1, 30, mostQty} {
			for _, filled := range outside(0, mostQty) {
				wantNoOut(t, qty, show, filled)
			}
		}
	}
}

// P26.1 and P26.3: the ends of what may be, and one beyond, with each other.
func TestTargetsAtTheEnds(t *testing.T) {
	for _, qty := range append(quantities(), -1, mostQty+1, leastInt, greatestInt) {
		for _, show := range append(shows(), -1, 0, mostQty+1, leastInt, greatestInt) {
			for _, filled := range []int{leastInt, -1, 0, 1, qty - show - 1, qty - show, qty - show + 1, qty - 1, qty, qty + 1, mostQty - 1, mostQty, mostQty + 1, greatestInt} {
				wantPlain(t, qty, show, filled)
			}
		}
	}
}

// P26.1 and P26.3: all that there is in small numbers, wrong ones among them.
func TestTargetsOfSmallNumbers(t *testing.T) {
	for qty := -2; qty <= 40; qty++ {
		for show := -2; show <= 43; show++ {
			for filled := -2; filled <= 43; filled++ {
				wantPlain(t, qty, show, filled)
			}
		}
	}
}

// P26.1: the more is executed, and the more is shown, the more should be out; never less.
func TestTargetsNeverFall(t *testing.T) {
	for _, qty := range quantities() {
		for _, show := range shows() {
			was := 0
			list := fills(qty, show)
			slices.Sort(list)
			for _, filled := range list {
				was = wantNoLess(t, qty, show, filled, was)
			}
		}
		for _, filled := range fills(qty, 30) {
			was := 0
			for _, show := range shows() {
				was = wantNoLess(t, qty, show, filled, was)
			}
		}
	}
}

// wantNoLess looks that a target is no less than it was, nor more than there is, and tells it.
func wantNoLess(t *testing.T, qty, show, filled, was int) int {
	t.Helper()
	n, e := berg.Target(qty, show, filled)
	if e != api.OK || n < was || n > qty {
		t.Fatalf("Target(%d, %d, %d): %d, %d; it was %d", qty, show, filled, n, e, was)
	}
	return n
}
