package pace_test

import (
	"testing"

	"spigot/api"
)

// P24.3: in numbers worked out by hand.
func TestGoal(t *testing.T) {
	for _, x := range []struct{ target, lot, qty, want int }{
		// On the lot, one above it, one below it.
		{0, 5, 10, 0}, {1, 5, 10, 5}, {4, 5, 10, 5}, {5, 5, 10, 5}, {6, 5, 10, 10}, {9, 5, 10, 10}, {10, 5, 10, 10},
		{20, 10, 100, 20}, {21, 10, 100, 30}, {19, 10, 100, 20}, {11, 10, 100, 20}, {99, 10, 100, 100}, {100, 10, 100, 100},
		// The next number on the lot is above the quantity.
		{6, 5, 9, 9}, {5, 5, 9, 5}, {9, 5, 9, 9}, {8, 5, 9, 9}, {91, 10, 95, 95}, {90, 10, 95, 90}, {95, 10, 95, 95}, {3, 5, 4, 4}, {3, 5, 5, 5}, {3, 5, 3, 3}, {3, 5, 6, 5},
		// A lot of 1, one of the quantity, one above it.
		{0, 1, 10, 0}, {7, 1, 10, 7}, {10, 1, 10, 10}, {0, 10, 10, 0}, {1, 10, 10, 10}, {10, 10, 10, 10}, {0, 11, 10, 0}, {1, 11, 10, 10}, {10, 11, 10, 10}, {9, 11, 10, 10},
		// No quantity, and one of 1.
		{0, 1, 0, 0}, {0, 5, 0, 0}, {0, greatestInt, 0, 0}, {0, 1, 1, 0}, {1, 1, 1, 1}, {0, 5, 1, 0}, {1, 5, 1, 1},
		// The greatest quantity.
		{0, 1, 1 << 40, 0}, {1 << 40, 1, 1 << 40, 1 << 40}, {1<<40 - 1, 1, 1 << 40, 1<<40 - 1}, {1, 1 << 40, 1 << 40, 1 << 40}, {0, 1 << 40, 1 << 40, 0}, {1 << 40, 1 << 40, 1 << 40, 1 << 40},
		{1, 1<<40 - 1, 1 << 40, 1<<40 - 1}, {1<<40 - 1, 1<<40 - 1, 1 << 40, 1<<40 - 1}, {1 << 40, 1<<40 - 1, 1 << 40, 1 << 40}, {1, 1<<40 + 1, 1 << 40, 1 << 40}, {1<<39 + 1, 1 << 39, 1 << 40, 1 << 40},
		{1 << 40, 3, 1 << 40, 1 << 40}, {1<<40 - 1, 3, 1 << 40, 1<<40 - 1}, {1<<40 - 3, 3, 1 << 40, 1<<40 - 1},
		// The greatest lots: their second number has no room in 64 bits.
		{0, greatestInt, 1 << 40, 0}, {1, greatestInt, 1 << 40, 1 << 40}, {1 << 40, greatestInt, 1 << 40, 1 << 40}, {5, greatestInt, 9, 9}, {5, greatestInt - 1, 9, 9}, {1, 1 << 62, 1 << 40, 1 << 40}, {1 << 40, 1<<62 + 1, 1 << 40, 1 << 40},
	} {
		wantGoal(t, x.target, x.lot, x.qty, x.want, api.OK)
	}
}

// P24.3: a lot below 1, a quantity and a target that may not be, each on its own and together.
func TestGoalRefused(t *testing.T) {
	for _, lot := range []int{0, -1, -5, leastInt + 1, leastInt} {
		for _, qty := range []int{-1, 0, 1, 10, api.MaxQty, api.MaxQty + 1} {
			for _, target := range []int{-1, 0, 1, qty, qty + 1} {
				wantGoal(t, target, lot, qty, 0, api.ErrArg)
			}
		}
	}
	for _, qty := range wrongs() {
		for _, lot := range []int{1, 2, 5, api.MaxQty, greatestInt} {
			for _, target := range []int{leastInt, -1, 0, 1, api.MaxQty, qty - 1, qty, greatestInt} {
				wantGoal(t, target, lot, qty, 0, api.ErrArg)
			}
		}
	}
	for _, qty := range quantities() {
		for _, lot := range []int{1, 2, 5, api.MaxQty, greatestInt} {
			for _, target := range []int{leastInt, leastInt + 1, -lot, -2, -1, qty + 1, qty + 2, api.MaxQty + 1, greatestInt - 1, greatestInt} {
				wantGoal(t, target, lot, qty, 0, api.ErrArg)
			}
		}
	}
}

// P24.3 and P24.4: all that there is in small numbers, wrong ones among them.
func TestGoalOfSmallNumbers(t *testing.T) {
	for qty := -2; qty <= 25; qty++ {
		for target := -2; target <= 27; target++ {
			for lot := -2; lot <= 28; lot++ {
				want, e := plainGoal(target, lot, qty)
				wantGoal(t, target, lot, qty, want, e)
				if e == api.OK && (want < target || want >= target+lot) {
					t.Fatalf("Goal(%d, %d, %d) is %d, a lot above its target, or below it", target, lot, qty, want)
				}
			}
		}
	}
}
