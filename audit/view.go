package audit

import (
	"slices"

	"spigot/api"
	"spigot/checked"
	"spigot/matrix"
)

// ledger is a view, beside the setup of the gateway that tells it.
type ledger struct {
	setup api.Setup
	view  api.View
}

// viewRules are the rules of a view on its own.
func viewRules() []rule[ledger] {
	return []rule[ledger]{
		{ruleSize, sizesFit},
		{ruleParent, parentsRight},
		{ruleChild, ofParents(childrenRight)},
		{ruleSum, ofParents(childrenAddUp)},
		{ruleMost, ofParents(withinMost)},
		{ruleDone, ofParents(doneRight)},
		{ruleNeed, ofParents(needHeld)},
		{ruleAccount, accountsAddUp},
	}
}

// ofParents makes of what is asked of a parent, and of what is held for it, what is asked of all of them.
func ofParents(keeps func(p api.Parent, held int) bool) func(ledger) bool {
	return func(l ledger) bool {
		for i, p := range l.view.Parents {
			if !keeps(p, l.view.Held[i]) {
				return false
			}
		}
		return true
	}
}

func sizesFit(l ledger) bool {
	s, v := l.setup, l.view
	return len(v.Used) == len(s.Accounts) &&
		len(v.Realised) == len(s.Accounts) &&
		len(v.Faults) == len(s.Venues) &&
		len(v.Held) == len(v.Parents) &&
		len(v.Parents) <= s.Parents &&
		v.Now >= 0 && v.Now <= api.MaxTime &&
		noneBelow0(v.Faults...) && noneBelow0(v.Used...) && noneBelow0(v.Realised...) && noneBelow0(v.Held...)
}

func noneBelow0(numbers ...int) bool {
	return !slices.ContainsFunc(numbers, func(n int) bool { return n < 0 })
}

func parentsRight(l ledger) bool {
	for _, p := range l.view.Parents {
		if !parentRight(p) || !hasAccount(l.setup, p.Account) {
			return false
		}
	}
	return true
}

func parentRight(p api.Parent) bool {
	return p.State >= api.PWorking && p.State <= api.PCanceled &&
		noneBelow0(p.Filled, p.Busted, p.Claims, p.Worth, p.Need) &&
		p.Qty >= 1 && p.Most >= p.Qty && p.Most <= api.MaxQty
}

func hasAccount(s api.Setup, name string) bool {
	return slices.ContainsFunc(s.Accounts, func(a api.Account) bool { return a.Name == name })
}

func childrenRight(p api.Parent, _ int) bool {
	return !slices.ContainsFunc(p.Children, func(c api.Child) bool { return !childRight(c) })
}

func childRight(c api.Child) bool {
	claim, e := claimOf(c)
	return e == api.OK && c.Cum >= 0 && c.Claim >= 0 && c.Claim == claim
}

// claimOf is what layer 21 says of a child's claim.
func claimOf(c api.Child) (int, api.Errno) {
	switch {
	case !matrix.Open(c.State):
		return 0, api.OK
	case c.State == api.SReplacing:
		return checked.Sub(max(c.Qty, c.NextQty), c.Cum)
	default:
		return checked.Sub(c.Qty, c.Cum)
	}
}

func childrenAddUp(p api.Parent, _ int) bool {
	var claims, cums []int
	for _, c := range p.Children {
		claims = append(claims, c.Claim)
		cums = append(cums, c.Cum)
	}
	return isSum(p.Claims, claims) && isSum(p.Filled, cums)
}

// isSum says whether a number is the sum of a list. One that can't be made is no number.
func isSum(n int, list []int) bool {
	sum, e := checked.Sum(list)
	return e == api.OK && sum == n
}

func withinMost(p api.Parent, _ int) bool {
	committed, e := checked.Sum([]int{p.Filled, p.Busted, p.Claims})
	return e == api.OK && committed <= p.Most
}

func doneRight(p api.Parent, held int) bool {
	switch {
	case isOpen(p):
		return true
	case p.State == api.PFilled && executed(p) < p.Qty:
		return false
	default:
		return p.Claims == 0 && held == 0
	}
}

// isOpen is asked of parents of which rule 2 says that they have a state.
func isOpen(p api.Parent) bool {
	return p.State <= api.PEnding
}

// executed is what was filled and busted together. It is asked of parents of which rule 5 says that this is at most Most, so that the sum can be made.
func executed(p api.Parent) int {
	return p.Filled + p.Busted
}

func needHeld(p api.Parent, held int) bool {
	return !isOpen(p) || p.Need <= held && p.Worth <= p.Need
}

func accountsAddUp(l ledger) bool {
	for i := range l.setup.Accounts {
		if !accountAddsUp(l, i) {
			return false
		}
	}
	return true
}

// accountAddsUp is asked of the account at a place.
func accountAddsUp(l ledger, place int) bool {
	v, account := l.view, l.setup.Accounts[place]
	worths, uses := []int{}, []int{v.Realised[place]}
	for i, p := range v.Parents {
		if p.Account != account.Name {
			continue
		}
		uses = append(uses, v.Held[i])
		if !isOpen(p) {
			worths = append(worths, p.Worth)
		}
	}
	return isSum(v.Realised[place], worths) && isSum(v.Used[place], uses) && v.Used[place] <= account.Limit
}
