package gateway_test

import (
	"math/big"
	"slices"

	"spigot/api"
)

// Chapter 30's rules, as its words have them: what W1 asks for.

func sum(list ...int) *big.Int {
	n := new(big.Int)
	for _, x := range list {
		n.Add(n, big.NewInt(int64(x)))
	}
	return n
}

func above(n *big.Int, most int) bool { return n.Cmp(big.NewInt(int64(most))) > 0 }

func isOpen(state int) bool { return api.SPending <= state && state <= api.SReplacing }

func claimOf(c api.Child) int {
	switch {
	case !isOpen(c.State):
		return 0
	case c.State == api.SReplacing:
		return max(c.Qty, c.NextQty) - c.Cum
	}
	return c.Qty - c.Cum
}

// least is the least one of lists.
func least(lists ...[]int) int {
	n := 0
	for _, list := range lists {
		for _, x := range list {
			n = min(n, x)
		}
	}
	return n
}

func sizeHolds(s api.Setup, v api.View) bool {
	return len(v.Used) == len(s.Accounts) && len(v.Realised) == len(s.Accounts) && len(v.Faults) == len(s.Venues) &&
		len(v.Held) == len(v.Parents) && len(v.Parents) <= s.Parents && v.Now >= 0 && v.Now <= mostTime &&
		least(v.Faults, v.Used, v.Realised, v.Held) == 0
}

func parentHolds(s api.Setup, p api.Parent) bool {
	return p.State >= api.PWorking && p.State <= api.PCanceled && least([]int{p.Filled, p.Busted, p.Claims, p.Worth, p.Need}) == 0 &&
		p.Qty >= 1 && p.Most >= p.Qty && p.Most <= mostQty &&
		slices.ContainsFunc(s.Accounts, func(a api.Account) bool { return a.Name == p.Account })
}

func childHolds(c api.Child) bool {
	return c.Cum >= 0 && c.Claim >= 0 && c.Claim == claimOf(c)
}

func sumHolds(p api.Parent) bool {
	var claims, cums []int
	for _, c := range p.Children {
		claims, cums = append(claims, c.Claim), append(cums, c.Cum)
	}
	return sum(claims...).Cmp(sum(p.Claims)) == 0 && sum(cums...).Cmp(sum(p.Filled)) == 0
}

func doneHolds(p api.Parent, held int) bool {
	if p.State <= api.PEnding {
		return true
	}
	return p.Claims == 0 && held == 0 && (p.State != api.PFilled || p.Filled+p.Busted >= p.Qty)
}

// accountHolds is of the account at a place.
func accountHolds(s api.Setup, v api.View, i int) bool {
	var worths, helds []int
	for k, p := range v.Parents {
		if p.Account != s.Accounts[i].Name {
			continue
		}
		helds = append(helds, v.Held[k])
		if p.State > api.PEnding {
			worths = append(worths, p.Worth)
		}
	}
	return sum(worths...).Cmp(sum(v.Realised[i])) == 0 && sum(append(helds, v.Realised[i])...).Cmp(sum(v.Used[i])) == 0 && v.Used[i] <= s.Accounts[i].Limit
}

// broken is the number of the first rule that a view breaks; 0, if it breaks none.
func broken(s api.Setup, v api.View) int {
	if !sizeHolds(s, v) {
		return 1
	}
	rules := []func(p api.Parent, held int) bool{
		func(p api.Parent, _ int) bool { return parentHolds(s, p) },
		func(p api.Parent, _ int) bool {
			return !slices.ContainsFunc(p.Children, func(c api.Child) bool { return !childHolds(c) })
		},
		func(p api.Parent, _ int) bool { return sumHolds(p) },
		func(p api.Parent, _ int) bool { return !above(sum(p.Filled, p.Busted, p.Claims), p.Most) },
		doneHolds,
		func(p api.Parent, held int) bool {
			return p.State > api.PEnding || p.Need <= held && p.Worth <= p.Need
		},
	}
	for i, holds := range rules {
		for k, p := range v.Parents {
			if !holds(p, v.Held[k]) {
				return i + 2
			}
		}
	}
	for i := range s.Accounts {
		if !accountHolds(s, v, i) {
			return 8
		}
	}
	return 0
}

// stays is whether a parent is behind a step what it may be.
func stays(a, b api.Parent) bool {
	if a.ID != b.ID || a.Account != b.Account || a.Symbol != b.Symbol || a.Side != b.Side || a.Algo != b.Algo || a.Start != b.Start ||
		b.Most < a.Most || a.State > api.PEnding && b.State != a.State || b.Filled+b.Busted < a.Filled+a.Busted || b.Busted < a.Busted || len(b.Children) < len(a.Children) {
		return false
	}
	for i, c := range a.Children {
		d := b.Children[i]
		if c.ID != d.ID || c.Venue != d.Venue || c.Side != d.Side {
			return false
		}
	}
	return true
}

// brokenBetween is the number of the first rule that is broken by what comes of a view; 0, if none is.
func brokenBetween(s api.Setup, a, b api.View) int {
	for _, v := range []api.View{a, b} {
		if rule := broken(s, v); rule != 0 {
			return rule
		}
	}
	if b.Now < a.Now || slices.ContainsFunc([]int{0, 1, 2, 3, 4, 5, 6, 7}[:len(a.Faults)], func(i int) bool { return b.Faults[i] < a.Faults[i] }) {
		return 9
	}
	if len(b.Parents) < len(a.Parents) {
		return 10
	}
	for i, p := range a.Parents {
		if !stays(p, b.Parents[i]) {
			return 10
		}
	}
	for i, p := range a.Parents {
		q := b.Parents[i]
		same := p.Qty == q.Qty && p.Price == q.Price && p.End == q.End && p.Busted == q.Busted
		if p.State <= api.PEnding && q.State <= api.PEnding && same && a.Held[i] != b.Held[i] {
			return 11
		}
	}
	for i, p := range a.Parents {
		q := b.Parents[i]
		stopped := p.State > api.PEnding || p.State != api.PWorking && q.State != api.PWorking || a.Killed && b.Killed
		if stopped && len(q.Children) > len(p.Children) {
			return 12
		}
	}
	return 0
}
