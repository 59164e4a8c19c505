package audit_test

import (
	"testing"

	"spigot/api"
)

// P30.1, rule 5: filled, busted and claims together just Most, one above, one below; whichever of them it is.
func TestMost(t *testing.T) {
	for _, c := range []struct{ filled, busted, claims int }{{100, 0, 0}, {0, 100, 0}, {0, 0, 100}, {50, 50, 0}, {0, 50, 50}, {50, 0, 50}, {30, 30, 40}, {1, 1, 98}} {
		for _, place := range []int{working, paused, last} {
			for _, more := range []int{-1, 0, 1, 2} {
				v := books()
				p := &v.Parents[place]
				p.Qty, p.Most = 20, 100-more
				p.Children, p.Busted = []api.Child{{State: api.SPartial, Qty: c.filled + c.claims, Cum: c.filled, Claim: c.claims}}, c.busted
				add(p)
				if more > 0 {
					alone(t, setup(), v, 5)
				} else {
					told(t, setup(), v, 0)
				}
			}
		}
	}
	// Not of what Qty is: that may be below.
	told(t, setup(), changed(func(v *api.View) { v.Parents[working].Qty = 1 }), 0)
}

// P30.1, rule 5: one busted more than Most allows, of each parent.
func TestMostOfEach(t *testing.T) {
	for place, p := range books().Parents {
		left := p.Most - p.Filled - p.Busted - p.Claims
		told(t, setup(), changed(func(v *api.View) { v.Parents[place].Busted += left }), 0)
		alone(t, setup(), changed(func(v *api.View) { v.Parents[place].Busted += left + 1 }), 5)
		alone(t, setup(), changed(func(v *api.View) { v.Parents[place].Busted = greatestInt }), 5)
		alone(t, setup(), changed(func(v *api.View) { v.Parents[place].Busted = mostQty + 1 }), 5)
	}
}

// P30.1, rule 5: sums at the greatest quantity, and such as would be above 2^63 - 1.
func TestMostOfAnySize(t *testing.T) {
	for _, c := range []struct{ filled, busted, claims, asked int }{
		{mostQty, 0, 0, 0},
		{0, mostQty, 0, 0},
		{0, 0, mostQty, 0},
		{mostQty - 2, 1, 1, 0},
		{mostQty - 1, 1, 1, 5},
		{mostQty, 0, 1, 5},
		{greatestInt, 0, 0, 5},
		{0, greatestInt, 0, 5},
		{0, 0, greatestInt, 5},
		{greatestInt, 1, 0, 5},
		{1, greatestInt, 0, 5},
		{0, 1, greatestInt, 5},
		{greatestInt, greatestInt, 0, 5},
		{greatestInt, 0, greatestInt, 5},
		{greatestInt, greatestInt, 2, 5},
		{2, greatestInt, greatestInt, 5},
		{greatestInt, greatestInt, greatestInt, 5},
		{1 << 62, 1 << 62, 0, 5},
		{0, 1 << 62, 1 << 62, 5},
		{1 << 62, 1 << 62, 1 << 62, 5},
	} {
		v := books()
		p := &v.Parents[last]
		p.Most, p.Filled, p.Busted, p.Claims = mostQty, c.filled, c.busted, c.claims
		p.Children = []api.Child{{State: api.SCanceled, Cum: c.filled}, {State: api.SNew, Qty: c.claims, Claim: c.claims}}
		told(t, setup(), v, c.asked)
		if c.asked == 5 {
			alone(t, setup(), v, 5)
		}
	}
}

// P30.1, rule 6: a parent that is done with a claim, and the same one while it is open.
func TestDoneWithClaim(t *testing.T) {
	for state := api.PWorking; state <= api.PCanceled; state++ {
		for _, place := range []int{filled, canceled, unsent} {
			v := books()
			p := &v.Parents[place]
			p.State, p.Most = state, 50
			p.Children = append(p.Children, api.Child{State: api.SNew, Qty: 1, Claim: 1})
			add(p)
			if state <= api.PEnding {
				// What is open asks for what its need is to be held, and realises nothing.
				worth(&v, place, 0)
				hold(&v, place, p.Need)
				told(t, setup(), v, 0)
			} else {
				// Enough is filled and busted, so that only the claim is wrong.
				p.Qty = max(1, p.Filled)
				p.Busted = 1
				alone(t, setup(), v, 6)
			}
		}
	}
}

// P30.1, rule 6: a parent that is done with something held, and with just nothing.
func TestDoneWithHeld(t *testing.T) {
	for _, place := range []int{filled, canceled, unsent} {
		for _, n := range []int{1, 2, 1000} {
			alone(t, setup(), changed(func(v *api.View) { hold(v, place, n) }), 6)
		}
		told(t, setup(), changed(func(v *api.View) { hold(v, place, 0) }), 0)
		told(t, setup(), changed(func(v *api.View) { v.Held[place] = greatestInt }), 6)
	}
}

// P30.1, rule 6: what is PFilled with filled and busted together just Qty, one below, one above; what is PCanceled with less.
func TestFilledEnough(t *testing.T) {
	for _, c := range []struct{ filled, busted int }{{20, 0}, {0, 20}, {19, 1}, {1, 19}, {10, 10}} {
		for qty := 18; qty <= 30; qty++ {
			for state := api.PFilled; state <= api.PCanceled; state++ {
				for _, place := range []int{filled, canceled} {
					v := books()
					p := &v.Parents[place]
					p.State, p.Qty, p.Most, p.Busted = state, qty, 30, c.busted
					p.Children[0].Cum = c.filled
					add(p)
					if state == api.PFilled && qty > 20 {
						alone(t, setup(), v, 6)
					} else {
						told(t, setup(), v, 0)
					}
				}
			}
		}
	}
	alone(t, setup(), changed(func(v *api.View) { v.Parents[unsent].State, v.Parents[unsent].Qty = api.PFilled, 1 }), 6)
	// An open one may have filled all.
	told(t, setup(), changed(func(v *api.View) { v.Parents[working].Qty = 31 }), 0)
	told(t, setup(), changed(func(v *api.View) { v.Parents[working].Qty = 1 }), 0)
}
