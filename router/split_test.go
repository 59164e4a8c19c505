package router_test

import (
	"slices"
	"testing"

	"spigot/api"
	"spigot/router"
)

// two are the offers of the chapter's examples.
func two() []router.Offer {
	return []router.Offer{offer(0, 10, 2, 30), offer(1, 20, 1, 25)}
}

func piece(place, qty int) router.Piece { return router.Piece{Place: place, Qty: qty} }

// many are n offers that are right, each with a lot of 10.
func many(n int) []router.Offer {
	var list []router.Offer
	for i := range n {
		list = append(list, offer(i, 10, i, 20))
	}
	return list
}

// P23.2: the chapter's examples.
func TestSplitExamples(t *testing.T) {
	wantSplit(t, 50, 10, two(), piece(1, 20), piece(0, 30))
	wantSplit(t, 35, 10, two(), piece(1, 20), piece(0, 10))
}

// P23.2: a quantity is from 0 to MaxQty.
func TestSplitQty(t *testing.T) {
	list := []router.Offer{offer(4, 1, 1, 3), offer(5, 1, 0, 2)}
	for _, qty := range []int{-1, -2, leastInt, leastInt + 1, 1<<40 + 1, 1 << 41, greatestInt - 1, greatestInt} {
		wantRefused(t, qty, 1, list, api.ErrArg)
		wantRefused(t, qty, 1, nil, api.ErrArg)
	}
	wantSplit(t, 0, 1, list)
	wantSplit(t, 1, 1, list, piece(5, 1))
	wantSplit(t, 2, 1, list, piece(5, 2))
	wantSplit(t, 3, 1, list, piece(5, 2), piece(4, 1))
	wantSplit(t, 1<<40-1, 1, list, piece(5, 1<<40-4), piece(4, 3))
	wantSplit(t, 1<<40, 1, list, piece(5, 1<<40-3), piece(4, 3))
}

// P23.2: a lot is from 1 to MaxQty.
func TestSplitLot(t *testing.T) {
	list := []router.Offer{offer(4, 1, 1, 3)}
	for _, lot := range []int{0, -1, -10, leastInt, leastInt + 1, 1<<40 + 1, 1 << 41, greatestInt - 1, greatestInt} {
		wantRefused(t, 1<<40, lot, list, api.ErrArg)
		wantRefused(t, 0, lot, nil, api.ErrArg)
	}
	wantSplit(t, 7, 1, list, piece(4, 7))
	wantSplit(t, 7, 2, list, piece(4, 6))
	wantSplit(t, 1<<40, 1<<40-1, list, piece(4, 1<<40-1))
	wantSplit(t, 1<<40, 1<<40, list, piece(4, 1<<40))
	wantSplit(t, 1<<40-1, 1<<40, list)
}

// wrongOffers are such that just one thing isn't right of each.
func wrongOffers() []router.Offer {
	var out []router.Offer
	for _, lot := range []int{0, -1, leastInt, 1<<40 + 1, greatestInt} {
		out = append(out, offer(3, lot, 5, 30))
	}
	for _, fee := range []int{-1, leastInt, 10001, greatestInt} {
		out = append(out, offer(3, 10, fee, 30))
	}
	for _, shown := range []int{-1, leastInt, 1<<40 + 1, greatestInt} {
		out = append(out, offer(3, 10, 5, shown))
	}
	return out
}

// rightOffers are just within what is right.
func rightOffers() []router.Offer {
	return []router.Offer{
		offer(3, 1, 5, 30), offer(3, 1<<40, 5, 30), offer(3, 10, 0, 30), offer(3, 10, 10000, 30), offer(3, 10, 5, 0), offer(3, 10, 5, 1<<40),
		offer(3, 1, 0, 0), offer(3, 1<<40, 10000, 1<<40), offer(leastInt, 10, 5, 30), offer(-1, 10, 5, 30), offer(greatestInt, 10, 5, 30),
	}
}

// inAll lays an offer at each place of lists of up to MaxVenues offers, healthy and not.
func inAll(o router.Offer, use func(list []router.Offer)) {
	for n := 1; n <= api.MaxVenues; n++ {
		for at := range n {
			list := many(n)
			list[at] = o
			use(list)
			list[at] = ill(o)
			use(list)
			for i := range list {
				list[i] = ill(list[i])
			}
			use(list)
		}
	}
}

// P23.2: an offer with a lot, a fee, or something shown out of its bounds, wherever it stands, healthy or not, and even if nothing is asked for.
func TestSplitWrongOffers(t *testing.T) {
	for _, o := range wrongOffers() {
		inAll(o, func(list []router.Offer) {
			wantRefused(t, 100, 10, list, api.ErrArg)
			wantRefused(t, 0, 10, list, api.ErrArg)
		})
	}
}

// P23.2: an offer just within its bounds; whatever place it tells, nothing is wrong with that.
func TestSplitOffersAtTheirBounds(t *testing.T) {
	for _, o := range rightOffers() {
		inAll(o, func(list []router.Offer) {
			want, _ := plainSplit(1<<40, 10, list)
			wantSplit(t, 1<<40, 10, list, want...)
		})
	}
	wantSplit(t, 95, 10, []router.Offer{offer(3, 10, 10000, 30), offer(1, 10, 9999, 20)}, piece(1, 60), piece(3, 30))
	wantSplit(t, 95, 10, []router.Offer{offer(3, 10, 1, 1<<40), offer(1, 10, 0, 20)}, piece(1, 20), piece(3, 70))
	wantSplit(t, 95, 10, []router.Offer{offer(leastInt, 10, 0, 30), offer(greatestInt, 10, 0, 30)}, piece(leastInt, 60), piece(greatestInt, 30))
}

// P23.2: of no offers nobody gets anything; MaxVenues may be, one more not.
func TestSplitHowManyOffers(t *testing.T) {
	for _, qty := range []int{0, 1, 10, 1 << 40} {
		wantSplit(t, qty, 1, nil)
		wantSplit(t, qty, 1, []router.Offer{})
		wantSplit(t, qty, 1<<40, nil)
	}
	all := []router.Piece{piece(0, 20), piece(1, 20), piece(2, 20), piece(3, 20), piece(4, 20), piece(5, 20), piece(6, 20), piece(7, 10)}
	wantSplit(t, 150, 10, many(8), all...)
	for _, n := range []int{9, 10, 16, 100, 1000} {
		wantRefused(t, 150, 10, many(n), api.ErrBig)
		wantRefused(t, 0, 10, many(n), api.ErrBig)
	}
	// Those that aren't healthy, show nothing, or could get nothing, count too.
	for _, o := range []router.Offer{ill(offer(8, 10, 0, 20)), offer(8, 10, 0, 0), offer(8, 1<<40-1, 0, 9)} {
		wantRefused(t, 150, 10, append(many(8), o), api.ErrBig)
		wantRefused(t, 150, 10, append([]router.Offer{o}, many(8)...), api.ErrBig)
	}
}

// P23.2: what is no argument is told ahead of too many offers, whichever it is, and wherever the wrong offer stands.
func TestSplitSeveralErrors(t *testing.T) {
	wantRefused(t, -1, 10, many(9), api.ErrArg)
	wantRefused(t, 1<<40+1, 10, many(9), api.ErrArg)
	wantRefused(t, 50, 0, many(9), api.ErrArg)
	wantRefused(t, 50, 1<<40+1, many(9), api.ErrArg)
	wantRefused(t, -1, 0, many(9), api.ErrArg)
	for _, o := range wrongOffers() {
		wantRefused(t, -1, 0, []router.Offer{o}, api.ErrArg)
		for _, n := range []int{9, 20} {
			for at := range n {
				list := many(n)
				list[at] = o
				wantRefused(t, 50, 10, list, api.ErrArg)
				list[at] = ill(o)
				wantRefused(t, 50, 10, list, api.ErrArg)
			}
		}
	}
}

// P23.2: a step may be up to MaxQty; one above it, or one that has no room at all, gets nothing, and nobody else less for it.
func TestSplitGreatSteps(t *testing.T) {
	rest := offer(7, 1, 9, 0)
	for _, x := range []struct {
		lot, venue int
		gets       bool
	}{
		{1 << 40, 1, true}, {1, 1 << 40, true}, {1 << 40, 1 << 40, true}, {1 << 20, 1 << 40, true}, {1 << 39, 1 << 40, true},
		// Of these it is 2^40 - 1.
		{1<<20 + 1, 1<<20 - 1, true},
		// 257 · 4278255361 is 2^40 + 1.
		{257, 4278255361, false}, {4278255361, 257, false},
		{1 << 40, 3, false}, {3, 1 << 40, false}, {1 << 21, 1<<20 - 1, false}, {1 << 40, 1<<40 - 1, false}, {1<<40 - 1, 1 << 40, false}, {1<<40 - 1, 1<<40 - 3, false},
	} {
		step, e := plainStep(x.lot, x.venue)
		if below := e == api.OK && step <= 1<<40; below != x.gets {
			t.Fatalf("the plain step of %d and %d is %d, %d", x.lot, x.venue, step, e)
		}
		list := []router.Offer{offer(2, x.venue, 0, 1<<40), rest}
		var want []router.Piece
		left := 1 << 40
		if x.gets {
			want = append(want, piece(2, step))
			left -= step
		}
		if n := left / x.lot * x.lot; n > 0 {
			want = append(want, piece(7, n))
		}
		wantSplit(t, 1<<40, x.lot, list, want...)
	}
}

// P23.2: who isn't healthy gets nothing, though it would be first, and shows all.
func TestSplitNotHealthy(t *testing.T) {
	list := two()
	list[1] = ill(list[1])
	wantSplit(t, 50, 10, list, piece(0, 50))
	list = two()
	list[0] = ill(list[0])
	wantSplit(t, 50, 10, list, piece(1, 40))
	list[1] = ill(list[1])
	wantSplit(t, 50, 10, list)
	wantSplit(t, 60, 10, []router.Offer{ill(offer(0, 1, 0, 100)), offer(1, 10, 1, 10), ill(offer(2, 10, 2, 100)), offer(3, 10, 3, 20), ill(offer(4, 10, 4, 0))}, piece(1, 40), piece(3, 20))
}

// P23.2: an offer shows nothing, less than its step, just its step, something more, or more than is left.
func TestSplitShown(t *testing.T) {
	for _, x := range []struct{ qty, shown, first, second int }{
		// The first one's step is 20, the second one's is 10, and it shows 40.
		{60, 0, 20, 40}, {60, 1, 20, 40}, {60, 19, 20, 40}, {60, 20, 20, 40}, {60, 21, 20, 40}, {60, 39, 20, 40}, {60, 40, 40, 20}, {60, 59, 40, 20}, {60, 60, 60, 0}, {60, 61, 60, 0}, {60, 1 << 40, 60, 0},
		{50, 0, 0, 50}, {50, 19, 0, 50}, {50, 20, 20, 30}, {50, 40, 40, 10}, {50, 1 << 40, 40, 10},
		{70, 0, 20, 50}, {70, 20, 20, 50}, {70, 40, 40, 30}, {70, 60, 60, 10}, {70, 79, 60, 10},
		{40, 0, 0, 40}, {40, 19, 0, 40}, {40, 20, 20, 20}, {40, 40, 40, 0},
		{19, 40, 0, 10}, {20, 0, 0, 20}, {20, 20, 20, 0}, {9, 40, 0, 0}, {10, 40, 0, 10},
	} {
		list := []router.Offer{offer(5, 20, 0, x.shown), offer(2, 5, 1, 40)}
		var want []router.Piece
		if x.first > 0 {
			want = append(want, piece(5, x.first))
		}
		if x.second > 0 {
			want = append(want, piece(2, x.second))
		}
		wantSplit(t, x.qty, 10, list, want...)
	}
}

// P23.2: what the first round leaves goes round in the same order, from the first one on, not from where the first round ended.
func TestSplitSecondRound(t *testing.T) {
	list := []router.Offer{offer(0, 30, 2, 30), offer(1, 20, 1, 20), offer(2, 50, 0, 50)}
	wantSplit(t, 100, 10, list, piece(2, 50), piece(1, 20), piece(0, 30))
	wantSplit(t, 110, 10, list, piece(2, 50), piece(1, 20), piece(0, 30))
	wantSplit(t, 120, 10, list, piece(2, 50), piece(1, 40), piece(0, 30))
	wantSplit(t, 130, 10, list, piece(2, 50), piece(1, 40), piece(0, 30))
	wantSplit(t, 140, 10, list, piece(2, 50), piece(1, 60), piece(0, 30))
	wantSplit(t, 150, 10, list, piece(2, 100), piece(1, 20), piece(0, 30))
	wantSplit(t, 159, 10, list, piece(2, 100), piece(1, 20), piece(0, 30))
	wantSplit(t, 170, 10, list, piece(2, 100), piece(1, 40), piece(0, 30))
	wantSplit(t, 249, 10, list, piece(2, 150), piece(1, 60), piece(0, 30))
	// 30 are left for the last one, as it is the only one whose step they reach.
	list[1].Lot, list[1].Shown = 40, 40
	wantSplit(t, 150, 10, list, piece(2, 50), piece(1, 40), piece(0, 60))
	// Nobody shows anything: then the first one of the order gets what it can, and so on.
	for i := range list {
		list[i].Shown = 0
	}
	wantSplit(t, 190, 10, list, piece(2, 150), piece(1, 40))
	wantSplit(t, 239, 10, list, piece(2, 200), piece(0, 30))
}

// P23.2: pieces stand in the offers' order, whichever the list's is: by fee, by what is shown, by place.
func TestSplitOrder(t *testing.T) {
	permuted([]router.Offer{offer(4, 10, 3, 90), offer(3, 10, 1, 20), offer(2, 10, 1, 30), offer(1, 10, 1, 20), offer(0, 10, 2, 10)}, func(list []router.Offer) {
		wantSplit(t, 100, 10, list, piece(2, 30), piece(1, 20), piece(3, 20), piece(0, 10), piece(4, 20))
		wantSplit(t, 60, 10, list, piece(2, 30), piece(1, 20), piece(3, 10))
		wantSplit(t, 200, 10, list, piece(2, 60), piece(1, 20), piece(3, 20), piece(0, 10), piece(4, 90))
	})
}

// P23.2: two offers of one place are two offers; of the same fee and as much shown, the one that stands first is first.
func TestSplitSamePlace(t *testing.T) {
	wantSplit(t, 60, 10, []router.Offer{offer(3, 10, 2, 30), offer(3, 10, 1, 20)}, piece(3, 30), piece(3, 30))
	wantSplit(t, 50, 10, []router.Offer{offer(3, 10, 2, 30), offer(3, 10, 1, 20)}, piece(3, 20), piece(3, 30))
	wantSplit(t, 60, 10, []router.Offer{offer(3, 10, 1, 20), offer(3, 10, 1, 20)}, piece(3, 40), piece(3, 20))
	wantSplit(t, 50, 10, []router.Offer{offer(3, 20, 1, 30), offer(3, 30, 1, 30)}, piece(3, 20), piece(3, 30))
	wantSplit(t, 40, 10, []router.Offer{offer(3, 20, 1, 30), offer(3, 30, 1, 30)}, piece(3, 40))
	wantSplit(t, 40, 10, []router.Offer{offer(3, 30, 1, 30), offer(3, 20, 1, 30)}, piece(3, 30))
	wantSplit(t, 40, 10, []router.Offer{ill(offer(3, 30, 1, 30)), offer(3, 20, 1, 30)}, piece(3, 40))
}

// P23.2: nobody gets anything, though there are offers.
func TestSplitForNobody(t *testing.T) {
	for _, list := range [][]router.Offer{two(), many(8), {offer(0, 1, 0, 0)}, {offer(0, 10, 0, 1<<40)}} {
		wantSplit(t, 0, 10, list)
		wantSplit(t, 9, 10, list)
	}
	wantSplit(t, 19, 1, []router.Offer{offer(0, 20, 0, 100), offer(1, 30, 0, 100)})
	wantSplit(t, 1<<40, 1<<40, []router.Offer{offer(0, 3, 0, 1<<40), ill(offer(1, 1, 0, 1<<40))})
}

// P23.2: whatever small offers there are, in both their orders.
func TestSplitAllSmall(t *testing.T) {
	for which := range 4 * 2 * 4 * 2 {
		first := offer(1, 1+which%4, which/4%2, which/8%4)
		if which/32%2 == 1 {
			first = ill(first)
		}
		for other := range 4 * 2 * 4 {
			list := []router.Offer{first, offer(0, 1+other%4, other/4%2, other/8)}
			for qty := range 15 {
				for lot := 1; lot <= 3; lot++ {
					want, _ := plainSplit(qty, lot, list)
					wantSplit(t, qty, lot, list, want...)
					slices.Reverse(list)
					wantSplit(t, qty, lot, list, want...)
				}
			}
		}
	}
}
