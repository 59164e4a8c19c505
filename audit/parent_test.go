package audit_test

import (
	"testing"

	"spigot/api"
)

// P30.1, rule 2: States beyond either end, of each parent; those between are right, if the other rules are kept.
func TestStatesOfParents(t *testing.T) {
	for place := range 6 {
		for _, state := range []int{0, 7, 8, -1, leastInt, greatestInt, 1 << 32, 257} {
			told(t, setup(), changed(func(v *api.View) { v.Parents[place].State = state }), 2)
		}
	}
	for _, place := range []int{working, paused, last} {
		for state := api.PWorking; state <= api.PEnding; state++ {
			told(t, setup(), changed(func(v *api.View) { v.Parents[place].State = state }), 0)
		}
	}
	alone(t, setup(), changed(func(v *api.View) { v.Parents[last].State = 0 }), 2)
	alone(t, setup(), changed(func(v *api.View) { v.Parents[last].State = 7 }), 2)
}

// P30.1, rule 2: what is not below 0.
func TestParentsBelow0(t *testing.T) {
	for place := range 6 {
		for i, number := range []func(p *api.Parent) *int{
			func(p *api.Parent) *int { return &p.Filled },
			func(p *api.Parent) *int { return &p.Busted },
			func(p *api.Parent) *int { return &p.Claims },
			func(p *api.Parent) *int { return &p.Worth },
			func(p *api.Parent) *int { return &p.Need },
		} {
			for _, n := range []int{-1, leastInt} {
				v := books()
				*number(&v.Parents[place]) = n
				if told(t, setup(), v, 2); t.Failed() {
					t.Fatal(place, i)
				}
			}
		}
	}
	// Of a parent that is done nothing is asked of Need, so that rule 2 alone is broken; and 0 is right.
	alone(t, setup(), changed(func(v *api.View) { v.Parents[filled].Need = -1 }), 2)
	told(t, setup(), changed(func(v *api.View) { v.Parents[filled].Need = 0 }), 0)
	alone(t, setup(), changed(func(v *api.View) { v.Parents[last].Worth = -1 }), 2)
	told(t, setup(), changed(func(v *api.View) { v.Parents[last].Worth = 0 }), 0)
	alone(t, setup(), changed(func(v *api.View) { v.Parents[last].Busted = -1 }), 2)
	told(t, setup(), changed(func(v *api.View) {
		v.Parents[last].Filled, v.Parents[last].Claims, v.Parents[last].Worth, v.Parents[last].Need, v.Parents[last].Children = 0, 0, 0, 0, nil
	}), 0)
}

// P30.1, rule 2: Qty and Most at their bounds.
func TestQtyAndMost(t *testing.T) {
	for _, place := range []int{paused, unsent} {
		for _, c := range []struct{ qty, most, asked int }{
			{1, 1, 0}, {1, 2, 0}, {2, 1, 2}, {0, 0, 2}, {0, 1, 2}, {-1, 1, 2}, {-1, -1, 2}, {leastInt, leastInt, 2}, {leastInt, 1, 2}, {1, 0, 2}, {1, leastInt, 2},
			{1, mostQty, 0}, {1, mostQty + 1, 2}, {1, greatestInt, 2}, {mostQty - 1, mostQty, 0}, {mostQty, mostQty, 0}, {mostQty, mostQty - 1, 2}, {mostQty + 1, mostQty + 1, 2},
			{mostQty, mostQty + 1, 2}, {mostQty + 1, mostQty, 2}, {greatestInt, greatestInt, 2}, {greatestInt, mostQty, 2},
		} {
			v := books()
			v.Parents[place].Qty, v.Parents[place].Most = c.qty, c.most
			told(t, setup(), v, c.asked)
			// A Most below 0 is below what is committed, too.
			if c.asked == 2 && c.most >= 0 {
				alone(t, setup(), v, 2)
			}
		}
	}
}

// P30.1, rule 2: an account that there isn't, and a setup of none.
func TestAccountsOfParents(t *testing.T) {
	for place := range 6 {
		for _, name := range []string{"", "D", "a", "AA", "A ", "\xff", "V", "X"} {
			told(t, setup(), changed(func(v *api.View) { v.Parents[place].Account = name }), 2)
		}
	}
	// A parent of which nothing is kept may be of any account that there is.
	for _, name := range []string{"A", "B", "C"} {
		told(t, setup(), changed(func(v *api.View) { v.Parents[unsent].Account = name }), 0)
	}
	alone(t, setup(), changed(func(v *api.View) { v.Parents[unsent].Account = "D" }), 2)
	v := books()
	v.Parents, v.Held, v.Used, v.Realised, v.Faults = v.Parents[unsent:last], []int{0}, nil, nil, nil
	alone(t, api.Setup{Parents: 1}, v, 2)
	alone(t, api.Setup{Parents: 1, Symbols: setup().Symbols}, v, 2)
}

// P30.1: what no rule names may be anything.
func TestNotNamed(t *testing.T) {
	for _, n := range []int{leastInt, -1, 0, 3, greatestInt} {
		for place := range 6 {
			told(t, setup(), changed(func(v *api.View) {
				p := &v.Parents[place]
				p.Side, p.Algo, p.Price, p.Start, p.End, p.ID, p.Symbol = n, n, n, n, n, "", "\xff"
				for i := range p.Children {
					c := &p.Children[i]
					c.Side, c.Price, c.NextPrice, c.ID, c.Venue = n, n, n, "", ""
				}
			}), 0)
		}
	}
	told(t, setup(), changed(func(v *api.View) { v.Killed = true }), 0)
}
