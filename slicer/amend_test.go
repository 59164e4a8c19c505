package slicer_test

import (
	"slices"
	"testing"

	"spigot/api"
)

// eachOrder runs a test of each algorithm's order.
func eachOrder(t *testing.T, test func(t *testing.T, a api.Ask)) {
	for _, a := range orders() {
		t.Run([]string{"", "Twap", "Vwap", "Flow", "Berg"}[a.Algo], func(t *testing.T) { test(t, a) })
	}
}

// P27.2: what may be amended, each on its own, and all the rest stays what it is.
func TestAmend(t *testing.T) {
	eachOrder(t, func(t *testing.T, a api.Ask) {
		x := newPair(t, a, 0)
		for _, qty := range []int{1, 2, 99, 100, 101, mostQty - 1, mostQty} {
			x.wantAmend(qty, 9, 60, api.OK)
		}
		for _, price := range []int{1, 2, 9, mostPrice - 1, mostPrice} {
			x.wantAmend(100, price, 60, api.OK)
		}
		for _, end := range []int{21, 22, 60, 61, 20 + longest - 1, 20 + longest} {
			x.wantAmend(100, 9, end, api.OK)
		}
		x.wantAmend(1, 2, 33, api.OK)
		want := a
		want.Qty, want.Price, want.End = 1, 2, 33
		if got := x.s.Ask(); !sameAsk(got, want) {
			t.Fatalf("Ask: %+v, not %+v", got, want)
		}
		// What was amended may be amended to what it was, and to what it is.
		x.wantAmend(100, 9, 60, api.OK)
		x.wantAmend(100, 9, 60, api.OK)
		if got := x.s.Ask(); !sameAsk(got, a) {
			t.Fatalf("Ask: %+v, not %+v", got, a)
		}
	})
}

// refused looks that an amendment is refused for just that, and that it changes nothing: neither of an order as it came in nor of one that was amended.
func refused(t *testing.T, a api.Ask, qty, price, end int, want api.Errno) {
	t.Helper()
	x := newPair(t, a, 10)
	x.wantAmend(qty, price, end, want)
	if got := x.s.Ask(); !sameAsk(got, a) {
		t.Fatalf("Ask behind the refused Amend(%d, %d, %d): %+v, not %+v", qty, price, end, got, a)
	}
	x.wantAmend(70, 8, a.End-1, api.OK)
	x.wantAmend(qty, price, end, want)
	for _, now := range []int{a.Start, a.Start + 1, a.End - 1, a.End} {
		x.target(now, 50, 3)
	}
}

// P27.2: each argument wrong on its own.
func TestAmendRefused(t *testing.T) {
	eachOrder(t, func(t *testing.T, a api.Ask) {
		for _, qty := range append(outside(1, mostQty), -1, -100) {
			refused(t, a, qty, 9, 60, api.ErrArg)
		}
		for _, price := range append(outside(1, mostPrice), -1, -9) {
			refused(t, a, 100, price, 60, api.ErrArg)
		}
		for _, end := range append(outside(0, mostTime), -20) {
			refused(t, a, 100, 9, end, api.ErrArg)
		}
		// Ends that are ticks, but none of this order.
		for _, end := range []int{0, 1, 18, 19, 20, 20 + longest + 1, 20 + longest + 2, mostTime - 1, mostTime} {
			refused(t, a, 100, 9, end, api.ErrTime)
		}
	})
}

// P27.2: of several errors ErrArg is told ahead of ErrTime.
func TestAmendErrorsAtOnce(t *testing.T) {
	eachOrder(t, func(t *testing.T, a api.Ask) {
		for _, end := range []int{0, 19, 20, 20 + longest + 1, mostTime, -1, mostTime + 1, leastInt, greatestInt} {
			for _, wrong := range []int{leastInt, -1, 0, mostQty + 1, greatestInt} {
				refused(t, a, wrong, 9, end, api.ErrArg)
				refused(t, a, 100, wrong, end, api.ErrArg)
				refused(t, a, wrong, wrong, end, api.ErrArg)
			}
		}
		for _, wrong := range []int{leastInt, -1, 0, mostQty + 1, greatestInt} {
			refused(t, a, wrong, wrong, 60, api.ErrArg)
		}
	})
}

// P27.2: an end goes by the start, wherever that is.
func TestAmendedEnds(t *testing.T) {
	eachOrder(t, func(t *testing.T, a api.Ask) {
		for _, start := range []int{0, 1, 5, longest, mostTime - longest - 1, mostTime - longest, mostTime - longest + 1, mostTime - 2, mostTime - 1} {
			a.Start, a.End = start, start+1
			x := newPair(t, a, 0)
			for _, long := range []int{-start - 1, -start, -1, 0, 1, 2, 1000, longest - 1, longest, longest + 1, mostTime - start, mostTime - start + 1} {
				want := api.OK
				switch end := start + long; {
				case end < 0 || end > mostTime:
					want = api.ErrArg
				case long < 1 || long > longest:
					want = api.ErrTime
				}
				x.wantAmend(100, 9, start+long, want)
				x.target(min(start+3, mostTime), 100, 20)
				x.target(mostTime, 100, 20)
			}
		}
	})
}

// P27.2: all of the ends of what may be amended, and one beyond, with each other.
func TestAmendAtTheEnds(t *testing.T) {
	eachOrder(t, func(t *testing.T, a api.Ask) {
		x := newPair(t, a, 0)
		few := []int{leastInt, -1, 0, 1, 2, mostQty, mostQty + 1, greatestInt}
		for _, qty := range few {
			for _, price := range few {
				for _, end := range append(few, 19, 20, 21, 60, 20+longest, 20+longest+1, mostTime) {
					x.amend(qty, price, end)
				}
			}
		}
	})
}

// P27.2: whether it is over, behind amendments too.
func TestOver(t *testing.T) {
	eachOrder(t, func(t *testing.T, a api.Ask) {
		x := newPair(t, a, 0)
		want := func(end int) {
			t.Helper()
			for now, over := range map[int]bool{leastInt: false, leastInt + 1: false, -end: false, -1: false, 0: false, end - 2: false, end - 1: false, end: true, end + 1: true, mostTime + 1: true, greatestInt - 1: true, greatestInt: true} {
				if got := x.s.Over(now); got != over {
					t.Fatalf("Over(%d): %t, of an order that ends at %d", now, got, end)
				}
			}
		}
		want(60)
		for _, end := range []int{61, 59, 21, 20 + longest, 200} {
			x.wantAmend(100, 9, end, api.OK)
			want(end)
			x.wantAmend(0, 9, 77, api.ErrArg)
			x.wantAmend(100, 9, 20, api.ErrTime)
			want(end)
		}
		a.Start, a.End = mostTime-1, mostTime
		x = newPair(t, a, 0)
		want(mostTime)
	})
}

// P27.2: Ask tells all of the order's other fields as they were handed in, behind amendments too, of each algorithm.
func TestAskBehindAmendments(t *testing.T) {
	eachOrder(t, func(t *testing.T, a api.Ask) {
		a.ID, a.Account, a.Symbol, a.Side = "pü", "A1", "X.Y", api.Buy
		if a.Algo == api.Vwap {
			a.Curve = slices.Repeat([]int{0, 5, 1 << 20, 7}, 16)
		}
		x := newPair(t, a, 7)
		for i := range 50 {
			x.wantAmend(100+i, 9+i, 60+i, api.OK)
			want := a
			want.Qty, want.Price, want.End = 100+i, 9+i, 60+i
			if got := x.s.Ask(); !sameAsk(got, want) {
				t.Fatalf("Ask: %+v, not %+v", got, want)
			}
		}
	})
}
