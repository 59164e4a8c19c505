package audit_test

import (
	"testing"

	"spigot/api"
)

// standing is the books with a parent of a single child, whose parent tells what it says of itself, so that rules 3 and 4 are about the child alone.
func standing(place int, c api.Child) api.View {
	v := books()
	p := &v.Parents[place]
	c.ID, c.Venue, c.Side, c.Price = "c", "V", p.Side, 1000
	p.Children, p.Claims, p.Filled, p.Busted = []api.Child{c}, c.Claim, c.Cum, 0
	return v
}

// P30.1, rule 3: each state of a child with the claim that layer 21 says, one more, one less, and none.
func TestClaimInEachState(t *testing.T) {
	for _, c := range []struct{ state, qty, next, cum, claim int }{
		{api.SPending, 10, 0, 0, 10},
		{api.SNew, 10, 0, 0, 10},
		{api.SPartial, 10, 0, 4, 6},
		{api.SCanceling, 10, 0, 4, 6},
		{api.SReplacing, 10, 9, 4, 6},
		{api.SReplacing, 10, 10, 4, 6},
		{api.SReplacing, 10, 11, 4, 7},
		{api.SReplacing, 10, 5, 4, 6},
		{api.SReplacing, 4, 10, 4, 6},
		{api.SReplacing, -3, 10, 4, 6},
		{api.SReplacing, 10, leastInt, 4, 6},
		{api.SFilled, 10, 0, 10, 0},
		{api.SFilled, 10, 0, 4, 0},
		{api.SCanceled, 10, 0, 4, 0},
		{api.SRejected, 10, 0, 0, 0},
		{0, 10, 0, 4, 0},
		{9, 10, 20, 4, 0},
		{-1, 10, 20, 4, 0},
		{leastInt, 10, 0, 0, 0},
		{greatestInt, 10, 0, 0, 0},
		{1<<32 + 2, 10, 0, 0, 0},
	} {
		for _, claim := range []int{c.claim, c.claim + 1, c.claim - 1, -c.claim, 0, 10, 16, 6, leastInt, greatestInt} {
			asked := 3
			switch {
			case claim == c.claim:
				asked = 0
			case claim < 0:
				asked = 2 // the parent's Claims say it
			}
			told(t, setup(), standing(working, api.Child{State: c.state, Qty: c.qty, NextQty: c.next, Cum: c.cum, Claim: claim}), asked)
			told(t, setup(), standing(last, api.Child{State: c.state, Qty: c.qty, NextQty: c.next, Cum: c.cum, Claim: claim}), asked)
		}
	}
}

// P30.1, rule 3: NextQty counts in SReplacing alone.
func TestNextQty(t *testing.T) {
	for _, state := range []int{api.SPending, api.SNew, api.SPartial, api.SCanceling} {
		for _, next := range []int{-1, 0, 9, 10, 11, greatestInt, leastInt} {
			told(t, setup(), standing(working, api.Child{State: state, Qty: 10, NextQty: next, Cum: 4, Claim: 6}), 0)
			told(t, setup(), standing(working, api.Child{State: state, Qty: 10, NextQty: next, Cum: 4, Claim: 7}), 3)
		}
	}
}

// P30.1, rule 3: Cum at 0 and below, at Qty and above it.
func TestCum(t *testing.T) {
	for _, c := range []struct{ state, qty, next, cum, claim, asked int }{
		{api.SNew, 10, 0, 10, 0, 0},
		{api.SPartial, 0, 0, 0, 0, 0},
		{api.SReplacing, 10, 12, 12, 0, 0},
		{api.SReplacing, 10, 12, 11, 1, 0},
		{api.SFilled, 10, 0, 11, 0, 0},
		{api.SCanceled, -5, 0, 3, 0, 0},
	} {
		told(t, setup(), standing(working, api.Child{State: c.state, Qty: c.qty, NextQty: c.next, Cum: c.cum, Claim: c.claim}), c.asked)
	}
	// What is below 0 is made good by another child, so that the parent's sums are right: rule 3 alone is broken.
	for _, c := range []struct{ state, qty, cum, claim int }{
		{api.SNew, 5, -1, 6},
		{api.SPartial, -1, -1, 0},
		{api.SFilled, 5, -1, 0},
		{api.SCanceled, 5, -4, 0},
		{0, 0, -1, 0},
		{api.SNew, 10, 11, -1},
		{api.SPartial, 3, 7, -4},
		{api.SReplacing, 10, 12, -2},
		{api.SFilled, 10, 11, -1},
		{api.SRejected, 10, 0, -1},
		{9, 0, 0, -1},
		{api.SNew, 10, 11, 0},
	} {
		for _, place := range []int{0, 4, 8} {
			v := books()
			p := &v.Parents[working]
			p.Children[place] = api.Child{ID: "c", Venue: "V", Side: 1, State: c.state, Qty: c.qty, Cum: c.cum, Claim: c.claim}
			p.Children = append(p.Children, api.Child{State: api.SPartial, Qty: 20, Cum: 10, Claim: 10})
			add(p)
			alone(t, setup(), v, 3)
		}
	}
}

// add lets a parent tell the sums of its children.
func add(p *api.Parent) {
	p.Claims, p.Filled = 0, 0
	for _, c := range p.Children {
		p.Claims += c.Claim
		p.Filled += c.Cum
	}
}

// P30.1, rule 3: each child of each parent, the claim one more and one less, with the sum right.
func TestEachChild(t *testing.T) {
	for i, p := range books().Parents {
		for k, c := range p.Children {
			for _, n := range []int{-1, 1} {
				v := books()
				v.Parents[i].Children[k].Claim += n
				add(&v.Parents[i])
				switch {
				case v.Parents[i].Claims < 0:
					told(t, setup(), v, 2)
				case v.Parents[i].State > api.PEnding:
					told(t, setup(), v, 3)
				default:
					alone(t, setup(), v, 3)
				}
				v = books()
				v.Parents[i].Children[k].Cum += n
				add(&v.Parents[i])
				switch {
				case v.Parents[i].Children[k].Cum < 0 || c.State <= api.SReplacing:
					told(t, setup(), v, 3)
				case i == filled && n < 0:
					alone(t, setup(), v, 6)
				default:
					told(t, setup(), v, 0)
				}
			}
		}
	}
}

// P30.1, rule 3: differences that leave the numbers are no claims.
func TestClaimsOfAnySize(t *testing.T) {
	for _, c := range []struct{ state, qty, next, cum, claim, asked int }{
		{api.SNew, leastInt, 0, greatestInt, 0, 3},
		{api.SNew, leastInt, 0, greatestInt, 1, 3},
		{api.SNew, leastInt, 0, 1, greatestInt, 3},
		{api.SReplacing, leastInt, leastInt, 1, greatestInt, 3},
		{api.SReplacing, leastInt, leastInt, 1, 0, 3},
		{api.SPartial, greatestInt, 0, greatestInt, 0, 5},
		{api.SPartial, greatestInt, 0, 0, greatestInt, 5},
		{api.SReplacing, leastInt, greatestInt, 0, greatestInt, 5},
		{api.SReplacing, greatestInt, leastInt, 1, greatestInt - 1, 5},
		{api.SFilled, leastInt, leastInt, greatestInt, 0, 5},
		{api.SFilled, leastInt, leastInt, 1, 0, 0},
	} {
		told(t, setup(), standing(working, api.Child{State: c.state, Qty: c.qty, NextQty: c.next, Cum: c.cum, Claim: c.claim}), c.asked)
	}
	// Cum below 0, beside which the difference is above all numbers.
	for _, cum := range []int{-1, leastInt} {
		v := books()
		v.Parents[working].Children[0] = api.Child{State: api.SNew, Qty: greatestInt, Cum: cum, Claim: greatestInt}
		told(t, setup(), v, 3)
		v.Parents[working].Children[0].Claim = leastInt
		told(t, setup(), v, 3)
		v.Parents[working].Children[0].State = api.SRejected
		v.Parents[working].Children[0].Claim = 0
		told(t, setup(), v, 3)
	}
}

// P30.1, rule 4: Claims and Filled that are one off the sums, of each parent.
func TestSums(t *testing.T) {
	for place := range 6 {
		told(t, setup(), changed(func(v *api.View) { v.Parents[place].Claims++ }), 4)
		told(t, setup(), changed(func(v *api.View) { v.Parents[place].Filled++ }), 4)
		if books().Parents[place].Claims > 0 {
			alone(t, setup(), changed(func(v *api.View) { v.Parents[place].Claims-- }), 4)
		}
		if books().Parents[place].Filled > 0 {
			told(t, setup(), changed(func(v *api.View) { v.Parents[place].Filled-- }), 4)
		}
	}
	for _, place := range []int{working, last} {
		alone(t, setup(), changed(func(v *api.View) { v.Parents[place].Claims++ }), 4)
		alone(t, setup(), changed(func(v *api.View) { v.Parents[place].Filled++ }), 4)
		alone(t, setup(), changed(func(v *api.View) { v.Parents[place].Filled-- }), 4)
		// One more of the one, one less of the other.
		alone(t, setup(), changed(func(v *api.View) { v.Parents[place].Filled--; v.Parents[place].Claims++ }), 4)
		alone(t, setup(), changed(func(v *api.View) { v.Parents[place].Filled++; v.Parents[place].Claims-- }), 4)
	}
	// The children of another parent don't count.
	told(t, setup(), changed(func(v *api.View) {
		a, b := &v.Parents[working], &v.Parents[last]
		a.Children, b.Children = append(a.Children, b.Children...), nil
	}), 4)
	// A child fewer, one more, and one twice.
	told(t, setup(), changed(func(v *api.View) { p := &v.Parents[working]; p.Children = p.Children[1:] }), 4)
	told(t, setup(), changed(func(v *api.View) { p := &v.Parents[working]; p.Children = append(p.Children, p.Children[2]) }), 4)
	// One that is neither filled nor claims may be there or not.
	told(t, setup(), changed(func(v *api.View) { p := &v.Parents[working]; p.Children = p.Children[:8] }), 0)
}

// P30.1, rule 4: a parent of no child, nil or empty.
func TestNoChild(t *testing.T) {
	for _, children := range [][]api.Child{nil, {}} {
		for _, place := range []int{paused, unsent} {
			v := books()
			v.Parents[place].Children = children
			told(t, setup(), v, 0)
			v.Parents[place].Filled = 1
			alone(t, setup(), v, 4)
			v.Parents[place].Filled = 0
			v.Parents[place].Claims = 1
			told(t, setup(), v, 4)
			v.Parents[place].Claims, v.Parents[place].Busted = 0, 1
			told(t, setup(), v, 0)
		}
	}
}

// P30.1, rule 4: sums that would be above 2^63 - 1 are no sums.
func TestSumsOfAnySize(t *testing.T) {
	full := api.Child{State: api.SFilled, Cum: greatestInt}
	out := api.Child{State: api.SNew, Qty: greatestInt, Claim: greatestInt}
	one := api.Child{State: api.SPartial, Qty: 2, Cum: 1, Claim: 1}
	for _, c := range []struct {
		children       []api.Child
		filled, claims int
		asked          int
	}{
		{[]api.Child{full}, greatestInt, 0, 5},
		{[]api.Child{full}, greatestInt - 1, 0, 4},
		{[]api.Child{out}, 0, greatestInt, 5},
		{[]api.Child{out}, 0, greatestInt - 1, 4},
		{[]api.Child{full, out}, greatestInt, greatestInt, 5},
		{[]api.Child{full, one}, greatestInt, 1, 4},
		{[]api.Child{full, one}, 0, 1, 4},
		{[]api.Child{out, one}, 1, greatestInt, 4},
		{[]api.Child{out, one}, 1, 0, 4},
		{[]api.Child{full, full}, greatestInt - 1, 0, 4},
		{[]api.Child{full, full, one, one}, 0, 2, 4},
		{[]api.Child{out, out, one, one}, 2, 0, 4},
		{[]api.Child{full, full, full, full}, 0, 0, 4},
		{[]api.Child{out, out}, 0, 0, 4},
	} {
		v := books()
		p := &v.Parents[last]
		p.Children, p.Filled, p.Claims = c.children, c.filled, c.claims
		told(t, setup(), v, c.asked)
	}
}
