package router_test

import (
	"math/rand/v2"
	"slices"
	"testing"

	"spigot/api"
	"spigot/router"
)

// someNumber is from 0 to MaxQty, of any length.
func someNumber(r *rand.Rand) int {
	if r.IntN(20) == 0 {
		return 1<<40 - r.IntN(2)
	}
	return r.IntN(1 << r.IntN(41))
}

// someLot is at least 1; small ones, those with much in common, and any.
func someLot(r *rand.Rand) int {
	switch r.IntN(3) {
	case 0:
		return 1 + r.IntN(12)
	case 1:
		return []int{10, 20, 25, 50, 100, 1 << 20, 1 << 30, 1 << 40}[r.IntN(8)]
	}
	return max(1, someNumber(r))
}

// someOffers are right, of a few fees, of which many show as much, each with a place of its own; lots are at most most.
func someOffers(r *rand.Rand, most int) []router.Offer {
	var list []router.Offer
	ills := r.IntN(3) // of 6
	for _, place := range r.Perm(max(r.IntN(api.MaxVenues+1), r.IntN(api.MaxVenues+1))) {
		o := offer(place, min(most, someLot(r)), r.IntN(3), r.IntN(3)*25)
		if r.IntN(3) == 0 {
			o.Shown = someNumber(r)
		}
		if r.IntN(5) == 0 {
			o.Fee = r.IntN(10001)
		}
		o.Healthy = r.IntN(6) >= ills
		list = append(list, o)
	}
	return list
}

// keeps says whether pieces are as P23.3 says; each offer has a place of its own.
func keeps(qty, lot int, list []router.Offer, pieces []router.Piece) bool {
	left := qty
	for _, p := range pieces {
		left -= p.Qty
	}
	met := map[int]int{}
	for _, p := range pieces {
		at := slices.IndexFunc(list, func(o router.Offer) bool { return o.Place == p.Place })
		if at < 0 || !list[at].Healthy || p.Qty < 1 || p.Qty%lot != 0 || p.Qty%list[at].Lot != 0 {
			return false
		}
		if step, e := plainStep(lot, list[at].Lot); e != api.OK || left >= step {
			return false
		}
		met[p.Place]++
	}
	return left >= 0 && len(met) == len(pieces)
}

// P23.2 and P23.3: runs by chance of what is right, held against the chapter's words.
func TestSplitByChance(t *testing.T) {
	r := rand.New(rand.NewPCG(23, 4))
	met := map[int]int{}
	second, over := 0, 0
	for range 60000 {
		most := []int{5, 1 << 40}[r.IntN(2)]
		qty, lot, list := someNumber(r), min(most, someLot(r)), someOffers(r, most)
		want, _ := plainSplit(qty, lot, list)
		wantSplit(t, qty, lot, list, want...)
		got, e := router.Split(qty, lot, list)
		if e != api.OK || !keeps(qty, lot, list, got) {
			t.Fatalf("Split(%d, %d, %v): %v, %d: not what P23.3 says", qty, lot, list, got, e)
		}
		met[len(got)]++
		left := qty
		for _, p := range got {
			left -= p.Qty
			at := slices.IndexFunc(list, func(o router.Offer) bool { return o.Place == p.Place })
			if p.Qty > list[at].Shown {
				second++
			}
		}
		if len(got) > 0 && left > 0 {
			over++
		}
	}
	for n := range api.MaxVenues + 1 {
		if met[n] < 20 {
			t.Errorf("%d pieces were met %d times only", n, met[n])
		}
	}
	if second < 1000 || over < 1000 {
		t.Errorf("more than shown was got %d times only, something was left over %d times", second, over)
	}
}

// P23.2: runs by chance of which something may be wrong, and of places that come more than once.
func TestSplitErrorsByChance(t *testing.T) {
	r := rand.New(rand.NewPCG(23, 5))
	wrongs := wrongOffers()
	met := map[api.Errno]int{}
	for range 40000 {
		qty, lot, list := someNumber(r), someLot(r), someOffers(r, 1<<40)
		if r.IntN(4) == 0 {
			list = append(list, someOffers(r, 1<<40)...)
		}
		if len(list) > 0 && r.IntN(4) == 0 {
			list[r.IntN(len(list))] = wrongs[r.IntN(len(wrongs))]
		}
		if r.IntN(12) == 0 {
			qty = []int{-1, leastInt, 1<<40 + 1, greatestInt, 0, 1 << 40}[r.IntN(6)]
		}
		if r.IntN(12) == 0 {
			lot = []int{0, -1, leastInt, 1<<40 + 1, greatestInt, 1, 1 << 40}[r.IntN(7)]
		}
		want, e := plainSplit(qty, lot, list)
		met[e]++
		if e != api.OK {
			wantRefused(t, qty, lot, list, e)
			continue
		}
		wantSplit(t, qty, lot, list, want...)
	}
	for _, e := range []api.Errno{api.OK, api.ErrArg, api.ErrBig} {
		if met[e] < 1000 {
			t.Errorf("the answer %d was met %d times only", e, met[e])
		}
	}
}
