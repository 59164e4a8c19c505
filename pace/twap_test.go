package pace_test

import (
	"testing"

	"spigot/api"
)

// P24.1: between the ends, in numbers worked out by hand.
func TestTwap(t *testing.T) {
	for _, x := range []struct{ qty, start, end, now, want int }{
		// It comes out even.
		{10, 0, 10, 1, 1}, {10, 0, 10, 9, 9}, {10, 5, 15, 10, 5}, {12, 0, 4, 1, 3}, {12, 0, 4, 3, 9}, {100, 7, 17, 8, 10},
		// It is brought down.
		{10, 0, 4, 3, 7}, {10, 0, 3, 1, 3}, {10, 0, 3, 2, 6}, {10, 1, 5, 2, 2}, {10, 1, 5, 4, 7}, {99, 0, 100, 1, 0}, {99, 0, 100, 99, 98},
		{1, 0, 2, 1, 0}, {1, 0, 1000, 999, 0}, {2, 0, 3, 1, 0}, {2, 0, 3, 2, 1}, {0, 0, 10, 5, 0},
		// One above the start, one below the end.
		{1000, 100, 200, 101, 10}, {1000, 100, 200, 199, 990}, {7, 100, 200, 101, 0}, {7, 100, 200, 199, 6},
		// The greatest quantity, over the longest span too: 2^10 a tick.
		{1 << 40, 0, 1 << 30, 1, 1 << 10}, {1 << 40, 0, 1 << 30, 1<<30 - 1, 1<<40 - 1<<10}, {1 << 40, 5, 5 + 1<<30, 5 + 1<<29, 1 << 39},
		{1<<40 - 1, 0, 1 << 30, 1, 1<<10 - 1}, {1<<40 - 1, 0, 1 << 30, 1<<30 - 1, 1<<40 - 1<<10 - 1},
		{1 << 40, 1<<40 - 1<<30, 1 << 40, 1<<40 - 1, 1<<40 - 1<<10}, {1 << 40, 0, 1<<30 - 1, 1, 1024}, {1 << 40, 0, 3, 1, 366503875925}, {1 << 40, 0, 3, 2, 733007751850},
		{1, 0, 1 << 30, 1<<30 - 1, 0}, {1 << 30, 0, 1 << 30, 12345, 12345},
	} {
		wantTwap(t, x.qty, x.start, x.end, x.now, x.want, api.OK)
	}
}

// P24.1: at the named ticks of all spans, held against the chapter's words.
func TestTwapAboutTheEnds(t *testing.T) {
	for _, s := range spans() {
		for _, now := range s.ticks(3) {
			for _, qty := range quantities() {
				want, e := plainTwap(qty, s.start, s.end, now)
				wantTwap(t, qty, s.start, s.end, now, want, e)
			}
		}
	}
}

// P24.1: all that there is in small numbers, wrong ones among them.
func TestTwapOfSmallNumbers(t *testing.T) {
	for qty := -1; qty <= 7; qty++ {
		for start := -1; start <= 5; start++ {
			for end := -1; end <= 12; end++ {
				for now := -1; now <= 13; now++ {
					want, e := plainTwap(qty, start, end, now)
					wantTwap(t, qty, start, end, now, want, e)
				}
			}
		}
	}
}
