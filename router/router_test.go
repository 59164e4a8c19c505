package router_test

import (
	"math/big"
	"slices"
	"testing"

	"spigot/api"
	"spigot/router"
)

const (
	leastInt    = -1 << 63
	greatestInt = 1<<63 - 1
)

// offer is one that is healthy.
func offer(place, lot, fee, shown int) router.Offer {
	return router.Offer{Place: place, Lot: lot, Fee: fee, Shown: shown, Healthy: true}
}

// ill is an offer that isn't healthy any more.
func ill(o router.Offer) router.Offer {
	o.Healthy = false
	return o
}

// plainStep is what P23.1 says of Step, in numbers that have room for any product.
func plainStep(a, b int) (int, api.Errno) {
	if a < 1 || b < 1 {
		return 0, api.ErrArg
	}
	x, y := big.NewInt(int64(a)), big.NewInt(int64(b))
	both := new(big.Int).GCD(nil, nil, x, y)
	least := x.Mul(x, y)
	least.Quo(least, both)
	if !least.IsInt64() {
		return 0, api.ErrOver
	}
	return int(least.Int64()), api.OK
}

// ahead says whether an offer is ahead of another one, wherever they stand.
func ahead(a, b router.Offer) bool {
	switch {
	case a.Fee != b.Fee:
		return a.Fee < b.Fee
	case a.Shown != b.Shown:
		return a.Shown > b.Shown
	}
	return a.Place < b.Place
}

// plainRank puts each offer behind all that are not behind it, one by one.
func plainRank(list []router.Offer) []router.Offer {
	var out []router.Offer
	for _, o := range list {
		at := 0
		for at < len(out) && !ahead(o, out[at]) {
			at++
		}
		out = slices.Insert(out, at, o)
	}
	return out
}

// greatestOn is the greatest number on a step that is not above either bound.
func greatestOn(step, a, b int) int {
	n := min(a, b)
	if n > 100 {
		return n / step * step
	}
	for n%step != 0 {
		n--
	}
	return n
}

func outOf(n, low, high int) bool { return n < low || n > high }

// plainSplit is what P23.2 says, word by word.
func plainSplit(qty, lot int, list []router.Offer) ([]router.Piece, api.Errno) {
	wrong := outOf(qty, 0, 1<<40) || outOf(lot, 1, 1<<40)
	for _, o := range list {
		wrong = wrong || outOf(o.Lot, 1, 1<<40) || outOf(o.Fee, 0, 10000) || outOf(o.Shown, 0, 1<<40)
	}
	if wrong {
		return nil, api.ErrArg
	}
	if len(list) > 8 {
		return nil, api.ErrBig
	}
	order := plainRank(list)
	got := make([]int, len(order))
	left := qty
	for _, second := range []bool{false, true} {
		for i, o := range order {
			step, e := plainStep(lot, o.Lot)
			if e != api.OK || step > 1<<40 || !o.Healthy {
				continue
			}
			shown := o.Shown
			if second {
				shown = left
			}
			n := greatestOn(step, shown, left)
			got[i] += n
			left -= n
		}
	}
	var out []router.Piece
	for i, o := range order {
		if got[i] > 0 {
			out = append(out, router.Piece{Place: o.Place, Qty: got[i]})
		}
	}
	return out, api.OK
}

// roomy is a list with spare room behind it, in which something stands.
func roomy(list []router.Offer) []router.Offer {
	long := append(slices.Clone(list), offer(-7, 3, 0, 99), offer(-8, 1, 0, 77), offer(-9, 2, 0, 88))
	return long[:len(list)]
}

// untouched says whether a list of roomy and what lies behind it are as they were.
func untouched(list, was []router.Offer) bool {
	return slices.Equal(list[:len(list)+3], roomy(was)[:len(was)+3])
}

// ranked is Rank's answer, which must be the same again, and leave the list alone; what is done with the answer is not seen in the list, nor in the next answer.
func ranked(t *testing.T, list []router.Offer) []router.Offer {
	t.Helper()
	in := roomy(list)
	got := router.Rank(in)
	kept := slices.Clone(got)
	whole := got[:cap(got)]
	for i := range whole {
		whole[i] = offer(-1, -1, -1, -1)
	}
	again := router.Rank(in)
	if !slices.Equal(again, kept) {
		t.Fatalf("Rank(%v): %v, and then %v", list, kept, again)
	}
	if !untouched(in, list) {
		t.Fatalf("Rank(%v) changed it, or what lies behind it: %v", list, in[:len(in)+3])
	}
	return kept
}

// split is Split's answer, looked at as ranked looks at Rank's.
func split(t *testing.T, qty, lot int, list []router.Offer) ([]router.Piece, api.Errno) {
	t.Helper()
	in := roomy(list)
	got, e := router.Split(qty, lot, in)
	if e != api.OK && len(got) != 0 {
		t.Fatalf("Split(%d, %d, %v): %v beside %d", qty, lot, list, got, e)
	}
	kept := slices.Clone(got)
	whole := got[:cap(got)]
	for i := range whole {
		whole[i] = router.Piece{Place: -1, Qty: -1}
	}
	again, e2 := router.Split(qty, lot, in)
	if !slices.Equal(again, kept) || e2 != e {
		t.Fatalf("Split(%d, %d, %v): %v, %d, and then %v, %d", qty, lot, list, kept, e, again, e2)
	}
	if !untouched(in, list) {
		t.Fatalf("Split(%d, %d, %v) changed them, or what lies behind them: %v", qty, lot, list, in[:len(in)+3])
	}
	return kept, e
}

// wantSplit holds Split against what is wanted; the plain reckoning must want the same.
func wantSplit(t *testing.T, qty, lot int, list []router.Offer, want ...router.Piece) {
	t.Helper()
	if got, e := split(t, qty, lot, list); e != api.OK || !slices.Equal(got, want) {
		t.Errorf("Split(%d, %d, %v): %v, %d; the document asks for %v", qty, lot, list, got, e, want)
	}
	if plain, e := plainSplit(qty, lot, list); e != api.OK || !slices.Equal(plain, want) {
		t.Errorf("the plain reckoning of Split(%d, %d, %v) is %v, %d, not %v", qty, lot, list, plain, e, want)
	}
}

// wantRefused holds Split against an error; the plain reckoning must tell the same.
func wantRefused(t *testing.T, qty, lot int, list []router.Offer, want api.Errno) {
	t.Helper()
	if got, e := split(t, qty, lot, list); e != want {
		t.Errorf("Split(%d, %d, %v): %v, %d; the document asks for %d", qty, lot, list, got, e, want)
	}
	if _, e := plainSplit(qty, lot, list); e != want {
		t.Errorf("the plain reckoning of Split(%d, %d, %v) is %d, not %d", qty, lot, list, e, want)
	}
}
