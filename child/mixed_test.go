package child_test

import (
	"math/rand/v2"
	"testing"

	"spigot/api"
)

// fewCalls are all calls of a small child, right and wrong ones.
func fewCalls() []call {
	all := []call{ack, canceled, rejected, replaced, refused, cancel}
	for qty := range 5 {
		all = append(all, trade(qty), bust(qty))
	}
	for qty := 1; qty <= 4; qty++ {
		for price := 1; price <= 3; price++ {
			all = append(all, replace(qty, price))
		}
	}
	return all
}

// P21.1 to P21.4: whatever is done with a child of 1, 2 or 3, one call behind the other, it stands as the chapter says. Each standing is gone on from once, with all calls.
func TestAllStandings(t *testing.T) {
	for _, qty := range []int{1, 2, 3} {
		met := map[plain]bool{}
		work := [][]call{nil}
		for len(work) > 0 && len(met) < 2000 {
			path := work[0]
			work = work[1:]
			for _, k := range fewCalls() {
				x := newPair(t, api.Buy, qty, 2, path...)
				if x.do(k) == api.OK && !met[*x.p] {
					met[*x.p] = true
					work = append(work, append(path[:len(path):len(path)], k))
				}
			}
		}
		if len(met) < 100 {
			t.Errorf("only %d standings were met", len(met))
		}
	}
}

// someNumber is from 1 to most, or about it, or one that may not be.
func someNumber(r *rand.Rand, most int) int {
	switch r.IntN(12) {
	case 0:
		return most
	case 1:
		return most + 1
	case 2:
		return noQtys()[r.IntN(len(noQtys()))]
	case 3:
		return qtys()[r.IntN(len(qtys()))]
	}
	return 1 + r.IntN(max(most, 1))
}

// someCall is a call by chance, with numbers that mostly may be. What ends a child is rare, so that runs are long.
func someCall(r *rand.Rand, s api.Child) call {
	switch n := r.IntN(40); {
	case n == 0:
		return canceled
	case n == 1:
		return rejected
	case n < 6:
		return ack
	case n < 9:
		return cancel
	case n < 14:
		return refused
	case n < 18:
		return replaced
	case n < 25:
		return replace(someNumber(r, s.Cum+2*max(s.Claim, 1)), someNumber(r, 200))
	case n < 33:
		return trade(someNumber(r, max(s.Claim/3, 1)))
	}
	return bust(someNumber(r, s.Cum))
}

// P21.2 to P21.4: long runs by chance, each call held against the chapter; executed and claimed together grow only by a replace that is sent, and each state is met, each call taken and refused.
func TestRuns(t *testing.T) {
	met, taken, refusals := map[int]int{}, map[string]int{}, map[string]int{}
	for i := range 3000 {
		r := rand.New(rand.NewPCG(21, uint64(i)))
		qty := []int{1, 2, 10, 1000, api.MaxQty}[i%5]
		x := newPair(t, 1+i%2, qty, 1+r.IntN(200))
		for range 150 {
			k := someCall(r, x.c.Status())
			if x.do(k) == api.OK {
				taken[k.name]++
			} else {
				refusals[k.name]++
			}
			met[x.p.State]++
		}
	}
	for state := api.SPending; state <= api.SRejected; state++ {
		if met[state] == 0 {
			t.Errorf("the state %d was never met", state)
		}
	}
	for _, k := range fewCalls() {
		if taken[k.name] == 0 || refusals[k.name] == 0 {
			t.Errorf("%s was taken %d times, refused %d times", k.name, taken[k.name], refusals[k.name])
		}
	}
}

// P21.4: a child that nobody replaces is executed and claims together at most what it was sent with, less what was busted, however long; what was busted comes not again.
func TestNeverMore(t *testing.T) {
	for i := range 300 {
		r := rand.New(rand.NewPCG(2121, uint64(i)))
		x := newPair(t, api.Buy, 1000, 99)
		last, executed, busted := 1000, 0, 0
		for range 300 {
			k := someCall(r, x.c.Status())
			if k.name == "Replace" {
				continue
			}
			if x.do(k) == api.OK {
				switch k.name {
				case "Trade":
					executed += k.qty
				case "Bust":
					busted += k.qty
				}
			}
			s := x.c.Status()
			if s.Cum != executed-busted || executed+s.Claim > 1000 || s.Cum+s.Claim > last || s.Claim < 0 || x.c.Open() != (s.Claim > 0) {
				t.Fatalf("%d executed, %d busted, %d executed and claimed ahead of %v: %+v", executed, busted, last, k, s)
			}
			last = s.Cum + s.Claim
		}
	}
}

// P21.4: by a replace that is sent executed and claimed together are the greater one of both quantities, never more; an answer makes them no greater.
func TestGrowsByReplace(t *testing.T) {
	for next := 4; next <= 25; next++ {
		for more := range 20 {
			x := newPair(t, api.Sell, 10, 99, trade(3), replace(next, 98))
			if s := x.c.Status(); s.Cum+s.Claim != max(10, next) {
				t.Fatalf("%+v", s)
			}
			if more > 0 && x.do(trade(more)) != api.OK {
				continue
			}
			for _, k := range []call{refused, replaced, bust(2), canceled, replace(next, 98)} {
				x.do(k)
			}
		}
	}
}
