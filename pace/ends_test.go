package pace_test

import (
	"testing"

	"spigot/api"
)

// wrongs are below 0, or above both MaxQty and MaxTime, which are one number.
func wrongs() []int {
	return []int{-1, -2, -api.MaxQty, leastInt, leastInt + 1, api.MaxQty + 1, api.MaxTime + 1, api.MaxTime + api.MaxSpan, 1 << 62, greatestInt - 1, greatestInt}
}

// P24.1 and P24.2: a quantity that may be, and one that may not.
func TestQuantities(t *testing.T) {
	for _, qty := range quantities() {
		wantBoth(t, qty, 10, 20, 10, 0, api.OK)
		wantBoth(t, qty, 10, 20, 20, qty, api.OK)
	}
	for _, qty := range wrongs() {
		for _, now := range []int{0, 9, 10, 11, 15, 19, 20, 21, api.MaxTime} {
			wantBoth(t, qty, 10, 20, now, 0, api.ErrArg)
		}
	}
}

// P24.1 and P24.2: a tick that is none, on its own.
func TestTicksThatAreNone(t *testing.T) {
	for _, wrong := range wrongs() {
		for _, s := range spans() {
			for _, qty := range []int{0, 1, 10, api.MaxQty} {
				wantBoth(t, qty, wrong, s.end, s.end-1, 0, api.ErrArg)
				wantBoth(t, qty, s.start, wrong, s.start+1, 0, api.ErrArg)
				wantBoth(t, qty, s.start, s.end, wrong, 0, api.ErrArg)
			}
		}
	}
	// Ends that are as near to each other as they should be, but no ticks.
	wantBoth(t, 10, -1, 1, 0, 0, api.ErrArg)
	wantBoth(t, 10, -1, api.MaxSpan-1, 0, 0, api.ErrArg)
	wantBoth(t, 10, api.MaxTime-1, api.MaxTime+1, api.MaxTime, 0, api.ErrArg)
	wantBoth(t, 10, leastInt, leastInt+10, leastInt+5, 0, api.ErrArg)
	wantBoth(t, 10, greatestInt-10, greatestInt, greatestInt-5, 0, api.ErrArg)
	wantBoth(t, 10, greatestInt, leastInt, 0, 0, api.ErrArg)
	wantBoth(t, 10, leastInt, greatestInt, 0, 0, api.ErrArg)
}

// P24.1 and P24.2: the first and the last tick may be a start, an end and a now.
func TestTicksAtTheirEnds(t *testing.T) {
	const last = api.MaxTime
	wantBoth(t, 10, 0, 1, 0, 0, api.OK)
	wantBoth(t, 10, 0, 1, 1, 10, api.OK)
	wantBoth(t, 10, 0, 1, last, 10, api.OK)
	wantBoth(t, 10, last-1, last, 0, 0, api.OK)
	wantBoth(t, 10, last-1, last, last-1, 0, api.OK)
	wantBoth(t, 10, last-1, last, last, 10, api.OK)
	// They are ticks, but no such ends.
	wantBoth(t, 10, last, last, last, 0, api.ErrTime)
	wantBoth(t, 10, last, 0, 0, 0, api.ErrTime)
	wantBoth(t, 10, 0, 0, 0, 0, api.ErrTime)
	wantBoth(t, 10, 0, last, 0, 0, api.ErrTime)
}

// P24.1 and P24.2: an end is above its start by 1 to MaxSpan.
func TestEndsAboveTheirStarts(t *testing.T) {
	for _, start := range []int{0, 1, 5, api.MaxSpan, api.MaxTime - api.MaxSpan - 2} {
		for _, qty := range []int{0, 1, 10, api.MaxQty} {
			for _, long := range []int{1, 2, 100, api.MaxSpan - 1, api.MaxSpan} {
				wantBoth(t, qty, start, start+long, start, 0, api.OK)
				wantBoth(t, qty, start, start+long, start+long, qty, api.OK)
			}
			for _, long := range []int{-start, -1, 0, api.MaxSpan + 1, api.MaxSpan + 2, api.MaxTime - start} {
				if end := start + long; end >= 0 {
					for _, now := range []int{0, start, start + 1, end, api.MaxTime} {
						wantBoth(t, qty, start, end, now, 0, api.ErrTime)
					}
				}
			}
		}
	}
	wantBoth(t, 10, api.MaxTime, api.MaxTime-1, 5, 0, api.ErrTime)
	wantBoth(t, 10, api.MaxTime-api.MaxSpan-1, api.MaxTime, 5, 0, api.ErrTime)
	wantBoth(t, 10, api.MaxTime-api.MaxSpan, api.MaxTime, 5, 0, api.OK)
}

// P24.1 and P24.2: nothing is out at the start and ahead of it, all of it is at the end and behind it.
func TestAheadAndBehind(t *testing.T) {
	for _, s := range spans() {
		for _, qty := range quantities() {
			for _, now := range []int{0, s.start / 2, s.start - 1, s.start} {
				if now >= 0 {
					wantBoth(t, qty, s.start, s.end, now, 0, api.OK)
				}
			}
			for _, now := range []int{s.end, s.end + 1, (s.end + api.MaxTime) / 2, api.MaxTime} {
				if now <= api.MaxTime {
					wantBoth(t, qty, s.start, s.end, now, qty, api.OK)
				}
			}
		}
	}
}

// P24.1 and P24.2: of several errors ErrArg is told ahead of ErrTime, and ErrTime ahead of ErrCurve, whatever now is.
func TestErrorsAtOnce(t *testing.T) {
	for _, wrong := range wrongs() {
		// With ends that are none.
		wantBoth(t, wrong, 20, 10, 15, 0, api.ErrArg)
		wantBoth(t, wrong, 10, 10, 10, 0, api.ErrArg)
		wantBoth(t, 10, 20, 10, wrong, 0, api.ErrArg)
		wantBoth(t, 10, 0, api.MaxSpan+1, wrong, 0, api.ErrArg)
		wantBoth(t, 10, wrong, wrong, 5, 0, api.ErrArg)
		wantBoth(t, wrong, wrong, wrong, wrong, 0, api.ErrArg)
		for _, w := range noCurves() {
			wantVwap(t, wrong, w, 10, 20, 15, 0, api.ErrArg)
			wantVwap(t, 10, w, wrong, 20, 15, 0, api.ErrArg)
			wantVwap(t, 10, w, 10, wrong, 15, 0, api.ErrArg)
			wantVwap(t, 10, w, 10, 20, wrong, 0, api.ErrArg)
			wantVwap(t, wrong, w, 20, 10, 15, 0, api.ErrArg)
			wantVwap(t, 10, w, 20, 10, wrong, 0, api.ErrArg)
		}
	}
	for _, w := range noCurves() {
		for _, now := range []int{0, 9, 10, 11, 15, 20, 21, api.MaxTime} {
			wantVwap(t, 10, w, 20, 10, now, 0, api.ErrTime)
			wantVwap(t, 10, w, 10, 10, now, 0, api.ErrTime)
			wantVwap(t, 10, w, 10, api.MaxSpan+11, now, 0, api.ErrTime)
			wantVwap(t, 0, w, 20, 10, now, 0, api.ErrTime)
		}
	}
}
