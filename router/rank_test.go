package router_test

import (
	"math/rand/v2"
	"slices"
	"testing"

	"spigot/router"
)

func wantRank(t *testing.T, list []router.Offer, want ...router.Offer) {
	t.Helper()
	if got := ranked(t, list); !slices.Equal(got, want) {
		t.Errorf("Rank(%v): %v; the document asks for %v", list, got, want)
	}
	if plain := plainRank(list); !slices.Equal(plain, want) {
		t.Errorf("the plain reckoning of Rank(%v) is %v, not %v", list, plain, want)
	}
}

// P23.1: of nothing there is nothing, and of one just that, whatever it is.
func TestRankOfFew(t *testing.T) {
	if got := router.Rank(nil); len(got) != 0 {
		t.Errorf("Rank(nil): %v", got)
	}
	wantRank(t, nil)
	wantRank(t, []router.Offer{})
	for _, o := range []router.Offer{{}, offer(0, 10, 2, 30), ill(offer(3, 1, 0, 0)), offer(leastInt, leastInt, leastInt, leastInt), offer(greatestInt, greatestInt, greatestInt, greatestInt)} {
		wantRank(t, []router.Offer{o}, o)
	}
}

// P23.1: the lesser fee is first, then what shows more, then the lesser place; in whichever order they come.
func TestRankOrder(t *testing.T) {
	for _, want := range [][]router.Offer{
		{offer(1, 20, 1, 25), offer(0, 10, 2, 30)},
		{offer(9, 1, 0, 0), offer(0, 1, 1, 1<<40)},
		{offer(9, 1, 5, 31), offer(0, 1, 5, 30)},
		{offer(0, 1, 5, 30), offer(9, 1, 5, 30)},
		{offer(3, 1, 0, 5), offer(1, 1, 0, 4), offer(2, 1, 0, 4), offer(0, 1, 1, 9)},
		{offer(4, 9, 1, 3), offer(3, 8, 1, 2), offer(2, 7, 2, 1), offer(1, 6, 2, 0), offer(0, 5, 3, 0)},
	} {
		permuted(want, func(list []router.Offer) { wantRank(t, list, want...) })
	}
}

// permuted hands on a list in all orders.
func permuted(list []router.Offer, use func([]router.Offer)) {
	var from func(done, rest []router.Offer)
	from = func(done, rest []router.Offer) {
		if len(rest) == 0 {
			use(done)
		}
		for i := range rest {
			from(append(slices.Clone(done), rest[i]), slices.Delete(slices.Clone(rest), i, i+1))
		}
	}
	from(nil, list)
}

// P23.1: lot and health do not matter, and what is the same in fee, shown and place stays as it stands.
func TestRankStays(t *testing.T) {
	list := []router.Offer{ill(offer(1, 3, 0, 5)), offer(1, 1, 0, 5), offer(1, 2, 0, 5), ill(offer(1, 2, 0, 5)), offer(1, 1, 0, 5)}
	permuted(list, func(list []router.Offer) { wantRank(t, list, list...) })

	one, two, cheap := offer(1, 9, 4, 5), ill(offer(1, 2, 4, 5)), offer(8, 5, 3, 0)
	wantRank(t, []router.Offer{one, cheap, two}, cheap, one, two)
	wantRank(t, []router.Offer{two, cheap, one}, cheap, two, one)
}

// P23.1: long lists too, of which many are the same but for the lot, by which each is told apart.
func TestRankLong(t *testing.T) {
	r := rand.New(rand.NewPCG(23, 2))
	for _, n := range []int{9, 12, 13, 20, 21, 64, 100, 1000, 3000} {
		for _, kinds := range []int{1, 2, 3, 50} {
			list := make([]router.Offer, n)
			for i := range list {
				list[i] = offer(r.IntN(kinds), i, r.IntN(kinds), r.IntN(kinds))
				list[i].Healthy = r.IntN(2) == 0
			}
			if got := ranked(t, list); !slices.Equal(got, plainRank(list)) {
				t.Errorf("Rank of %d offers of %d kinds is not in order", n, kinds)
			}
		}
	}
}

// P23.1: any numbers may come, also those whose differences have no room.
func TestRankAnyNumbers(t *testing.T) {
	ends := []int{leastInt, leastInt + 1, -1, 0, 1, greatestInt - 1, greatestInt}
	var byFee, byShown, byPlace []router.Offer
	for i, n := range ends {
		m := ends[len(ends)-1-i]
		byFee = append(byFee, offer(m, m, n, n))
		byShown = append(byShown, offer(m, n, leastInt, m))
		byPlace = append(byPlace, ill(offer(n, m, greatestInt, leastInt)))
	}
	for _, want := range [][]router.Offer{byFee, byShown, byPlace} {
		for i := range want {
			for j := range want[:i] {
				wantRank(t, []router.Offer{want[i], want[j]}, want[j], want[i])
				wantRank(t, []router.Offer{want[j], want[i]}, want[j], want[i])
			}
		}
		back := slices.Clone(want)
		slices.Reverse(back)
		wantRank(t, back, want...)
	}
	r := rand.New(rand.NewPCG(23, 3))
	some := func() int { return ends[r.IntN(len(ends))] }
	for range 2000 {
		list := make([]router.Offer, r.IntN(30))
		for i := range list {
			list[i] = router.Offer{Place: some(), Lot: some(), Fee: some(), Shown: some(), Healthy: r.IntN(2) == 0}
		}
		wantRank(t, list, plainRank(list)...)
	}
}
