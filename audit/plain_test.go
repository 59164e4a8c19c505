package audit_test

import (
	"math/big"
	"slices"
	"testing"

	"spigot/api"
	"spigot/audit"
)

// The chapter's rules, each looked at on its own, in whole numbers of any size.

func whole(list ...int) *big.Int {
	n := new(big.Int)
	for _, x := range list {
		n.Add(n, big.NewInt(int64(x)))
	}
	return n
}

// is says whether a whole number is a given one.
func is(n *big.Int, asked int) bool { return n.Cmp(big.NewInt(int64(asked))) == 0 }

func atMost(n *big.Int, most int) bool { return n.Cmp(big.NewInt(int64(most))) <= 0 }

func anyBelow0(lists ...[]int) bool {
	for _, list := range lists {
		for _, x := range list {
			if x < 0 {
				return true
			}
		}
	}
	return false
}

func openParent(p api.Parent) bool {
	return slices.Contains([]int{api.PWorking, api.PPaused, api.PHalted, api.PEnding}, p.State)
}

func doneParent(p api.Parent) bool {
	return slices.Contains([]int{api.PFilled, api.PCanceled}, p.State)
}

// claim is what layer 21 says of a child.
func claim(c api.Child) *big.Int {
	switch c.State {
	case api.SPending, api.SNew, api.SPartial, api.SCanceling:
		return new(big.Int).Sub(whole(c.Qty), whole(c.Cum))
	case api.SReplacing:
		return new(big.Int).Sub(whole(max(c.Qty, c.NextQty)), whole(c.Cum))
	}
	return whole()
}

func plainSize(s api.Setup, v api.View) bool {
	lengths := []int{len(v.Used), len(v.Realised), len(v.Faults), len(v.Held)}
	asked := []int{len(s.Accounts), len(s.Accounts), len(s.Venues), len(v.Parents)}
	return slices.Equal(lengths, asked) && len(v.Parents) <= s.Parents && 0 <= v.Now && v.Now <= mostTime && !anyBelow0(v.Faults, v.Used, v.Realised, v.Held)
}

func plainParent(s api.Setup, p api.Parent) bool {
	if !openParent(p) && !doneParent(p) || anyBelow0([]int{p.Filled, p.Busted, p.Claims, p.Worth, p.Need}) {
		return false
	}
	found := false
	for _, a := range s.Accounts {
		found = found || a.Name == p.Account
	}
	return found && 1 <= p.Qty && p.Qty <= p.Most && p.Most <= mostQty
}

func plainChildren(p api.Parent) bool {
	for _, c := range p.Children {
		if c.Cum < 0 || c.Claim < 0 || !is(claim(c), c.Claim) {
			return false
		}
	}
	return true
}

func plainSum(p api.Parent) bool {
	claims, cums := whole(), whole()
	for _, c := range p.Children {
		claims.Add(claims, whole(c.Claim))
		cums.Add(cums, whole(c.Cum))
	}
	return is(claims, p.Claims) && is(cums, p.Filled)
}

func plainDone(p api.Parent, held int) bool {
	if doneParent(p) && (p.Claims != 0 || held != 0) {
		return false
	}
	return p.State != api.PFilled || !atMost(whole(p.Filled, p.Busted), p.Qty-1)
}

func plainNeed(p api.Parent, held int) bool {
	return !openParent(p) || p.Worth <= p.Need && p.Need <= held
}

func plainAccount(v api.View, a api.Account, used, realised int) bool {
	worths, reserved := whole(), whole()
	for i, p := range v.Parents {
		if p.Account == a.Name {
			reserved.Add(reserved, whole(v.Held[i]))
			if doneParent(p) {
				worths.Add(worths, whole(p.Worth))
			}
		}
	}
	return is(worths, realised) && is(worths.Add(worths, reserved), used) && used <= a.Limit
}

// brokenOf are all the rules that a view breaks; where rule 1 is broken, lists may be too short for others, so that it is told alone.
func brokenOf(s api.Setup, v api.View) []int {
	if !plainSize(s, v) {
		return []int{1}
	}
	kept := [9]bool{true, true, true, true, true, true, true, true, true}
	for i, p := range v.Parents {
		kept[2] = kept[2] && plainParent(s, p)
		kept[3] = kept[3] && plainChildren(p)
		kept[4] = kept[4] && plainSum(p)
		kept[5] = kept[5] && atMost(whole(p.Filled, p.Busted, p.Claims), p.Most)
		kept[6] = kept[6] && plainDone(p, v.Held[i])
		kept[7] = kept[7] && plainNeed(p, v.Held[i])
	}
	for i, a := range s.Accounts {
		kept[8] = kept[8] && plainAccount(v, a, v.Used[i], v.Realised[i])
	}
	var list []int
	for rule, ok := range kept {
		if !ok {
			list = append(list, rule)
		}
	}
	return list
}

func first(list []int) int {
	if len(list) == 0 {
		return 0
	}
	return list[0]
}

func plainTime(a, b api.View) bool {
	for i := range a.Faults {
		if a.Faults[i] > b.Faults[i] {
			return false
		}
	}
	return a.Now <= b.Now
}

// lasting is what of a child stays what it is.
func lasting(c api.Child) api.Child {
	return api.Child{ID: c.ID, Venue: c.Venue, Side: c.Side}
}

func plainStay(a, b api.Parent) bool {
	if [3]string{a.ID, a.Account, a.Symbol} != [3]string{b.ID, b.Account, b.Symbol} || [3]int{a.Side, a.Algo, a.Start} != [3]int{b.Side, b.Algo, b.Start} {
		return false
	}
	if a.Most > b.Most || a.Busted > b.Busted || doneParent(a) && a.State != b.State || len(a.Children) > len(b.Children) {
		return false
	}
	if whole(a.Filled, a.Busted).Cmp(whole(b.Filled, b.Busted)) > 0 {
		return false
	}
	for i, c := range a.Children {
		if lasting(c) != lasting(b.Children[i]) {
			return false
		}
	}
	return true
}

// brokenBy are all the rules 9 to 12 that are broken by b as what comes of a, each of which keeps the rules of a view; where there are fewer parents, rules 11 and 12 are not looked at.
func brokenBy(a, b api.View) []int {
	var list []int
	if !plainTime(a, b) {
		list = append(list, 9)
	}
	if len(b.Parents) < len(a.Parents) {
		return append(list, 10)
	}
	stay, held, fresh := true, true, true
	for i, p := range a.Parents {
		q := b.Parents[i]
		stay = stay && plainStay(p, q)
		if openParent(p) && openParent(q) && [4]int{p.Qty, p.Price, p.End, p.Busted} == [4]int{q.Qty, q.Price, q.End, q.Busted} {
			held = held && a.Held[i] == b.Held[i]
		}
		if doneParent(p) || p.State != api.PWorking && q.State != api.PWorking || a.Killed && b.Killed {
			fresh = fresh && len(q.Children) <= len(p.Children)
		}
	}
	for i, ok := range []bool{stay, held, fresh} {
		if !ok {
			list = append(list, 10+i)
		}
	}
	return list
}

// firstBy is what Step is asked to tell.
func firstBy(s api.Setup, a, b api.View) int {
	for _, v := range []api.View{a, b} {
		if rule := first(brokenOf(s, v)); rule != 0 {
			return rule
		}
	}
	return first(brokenBy(a, b))
}

// came holds what Step tells against the number that is asked, and against the plain reckoning.
func came(t *testing.T, s api.Setup, a, b api.View, asked int) {
	t.Helper()
	if n := audit.Step(s, a, b); n != asked {
		t.Errorf("Step: %d, asked for %d", n, asked)
	}
	if n := firstBy(s, a, b); n != asked {
		t.Errorf("the plain reckoning: %d, asked for %d", n, asked)
	}
}

// cameAlone holds that a rule from 9 to 12 is the only one that is broken.
func cameAlone(t *testing.T, s api.Setup, a, b api.View, rule int) {
	t.Helper()
	came(t, s, a, b, rule)
	if list := brokenBy(a, b); !slices.Equal(list, []int{rule}) {
		t.Errorf("the rules %v are broken, not %d alone", list, rule)
	}
}
