package audit_test

import (
	"testing"

	"spigot/api"
)

// P30.1, rule 7: Need just what is held, one above, one below; Worth just Need, one above, one below; of each open state.
func TestNeed(t *testing.T) {
	for state := api.PWorking; state <= api.PEnding; state++ {
		for _, place := range []int{working, paused, last} {
			for _, c := range []struct{ worth, need, held, asked int }{
				{10, 10, 10, 0}, {9, 10, 10, 0}, {10, 10, 11, 0}, {9, 10, 11, 0}, {0, 0, 0, 0}, {0, 0, 1, 0}, {0, 1, 1, 0}, {1, 1, 1, 0},
				{11, 10, 10, 7}, {10, 11, 10, 7}, {10, 10, 9, 7}, {11, 10, 11, 7}, {1, 0, 0, 7}, {0, 1, 0, 7}, {1, 0, 1, 7}, {12, 11, 10, 7},
				{0, greatestInt, 10, 7}, {greatestInt, greatestInt, 10, 7}, {greatestInt, 10, 10, 7},
			} {
				v := books()
				v.Parents[place].State, v.Parents[place].Worth, v.Parents[place].Need = state, c.worth, c.need
				hold(&v, place, c.held)
				told(t, setup(), v, c.asked)
				if c.asked == 7 {
					alone(t, setup(), v, 7)
				}
			}
		}
	}
}

// P30.1, rule 7: of a parent that is done Need and Worth may be anything that isn't below 0, whatever is held.
func TestNeedOfDone(t *testing.T) {
	for _, place := range []int{filled, canceled, unsent} {
		for _, need := range []int{0, 1, 20000, mostQty, greatestInt} {
			told(t, setup(), changed(func(v *api.View) { v.Parents[place].Need = need }), 0)
		}
		told(t, setup(), changed(func(v *api.View) { worth(v, place, 25001); v.Parents[place].Need = 25000 }), 0)
	}
}

// P30.1, rule 8: Realised and Used one more and one less, of each account, together and one alone.
func TestAccounts(t *testing.T) {
	for place := range 3 {
		for _, used := range []int{-1, 0, 1} {
			for _, realised := range []int{-1, 0, 1} {
				v := books()
				v.Used[place] += used
				v.Realised[place] += realised
				switch {
				case v.Used[place] < 0 || v.Realised[place] < 0:
					told(t, setup(), v, 1)
				case used == 0 && realised == 0:
					told(t, setup(), v, 0)
				default:
					alone(t, setup(), v, 8)
				}
			}
		}
	}
	// What one account uses too much, and another one too little.
	alone(t, setup(), changed(func(v *api.View) { v.Used[0]++; v.Used[1]-- }), 8)
	alone(t, setup(), changed(func(v *api.View) { v.Used[0]--; v.Used[2]++; v.Used[1]++ }), 8)
	alone(t, setup(), changed(func(v *api.View) {
		v.Used[0], v.Used[1], v.Realised[0], v.Realised[1] = v.Used[1], v.Used[0], v.Realised[1], v.Realised[0]
	}), 8)
}

// P30.1, rule 8: what of parents counts: Worth of those that are done, what is held of all, each for its own account.
func TestWhatAccountsAddUp(t *testing.T) {
	for _, place := range []int{filled, canceled, unsent} {
		for _, n := range []int{-1, 1} {
			v := books()
			if v.Parents[place].Worth += n; v.Parents[place].Worth >= 0 {
				alone(t, setup(), v, 8)
			}
			v = books()
			if n += v.Parents[place].Worth; n >= 0 {
				worth(&v, place, n)
				told(t, setup(), v, 0)
			}
		}
	}
	for _, place := range []int{working, paused, last} {
		// Of an open one the worth is not realised.
		told(t, setup(), changed(func(v *api.View) { v.Parents[place].Worth = v.Parents[place].Need }), 0)
		alone(t, setup(), changed(func(v *api.View) { v.Held[place]++ }), 8)
		alone(t, setup(), changed(func(v *api.View) { v.Held[place]-- }), 8)
		told(t, setup(), changed(func(v *api.View) { hold(v, place, v.Held[place]+1) }), 0)
		alone(t, setup(), changed(func(v *api.View) {
			n := v.Parents[place].Worth + 1
			v.Parents[place].Worth, v.Realised[0], v.Used[0] = n, v.Realised[0]+n, v.Used[0]+n
		}), 8)
	}
	// A parent of another account.
	for _, place := range []int{working, paused, filled, canceled, last} {
		alone(t, setup(), changed(func(v *api.View) {
			v.Parents[place].Account = map[string]string{"A": "B", "B": "A"}[v.Parents[place].Account]
		}), 8)
	}
}

// P30.1, rule 8: used just the limit, one above it.
func TestLimits(t *testing.T) {
	for place := range 3 {
		for more, asked := range map[int]int{0: 0, 1: 0, -1: 8} {
			s := setup()
			s.Accounts[place].Limit = books().Used[place] + more
			told(t, s, books(), asked)
			if asked == 8 {
				alone(t, s, books(), 8)
			}
		}
	}
	v := books()
	hold(&v, working, v.Held[working]+30000)
	told(t, setup(), v, 0)
	hold(&v, working, v.Held[working]+1)
	alone(t, setup(), v, 8)
	v = books()
	worth(&v, filled, v.Parents[filled].Worth+30000)
	told(t, setup(), v, 0)
	worth(&v, filled, v.Parents[filled].Worth+1)
	alone(t, setup(), v, 8)
}

// P30.1, rule 8: sums that would be above 2^63 - 1 are no sums, and such as are just that are.
func TestAccountsOfAnySize(t *testing.T) {
	const G = greatestInt
	for _, c := range []struct {
		worths, helds  [2]int
		used, realised int
		asked          int
	}{
		{[2]int{0, 0}, [2]int{0, 0}, 0, 0, 0},
		{[2]int{G, 0}, [2]int{0, 0}, G, G, 0},
		{[2]int{G - 1, 1}, [2]int{0, 0}, G, G, 0},
		{[2]int{0, 0}, [2]int{G, 0}, G, 0, 0},
		{[2]int{0, 0}, [2]int{1, G - 1}, G, 0, 0},
		{[2]int{G - 9, 2}, [2]int{3, 4}, G, G - 7, 0},
		{[2]int{G, 1}, [2]int{0, 0}, G, G, 8},
		{[2]int{G, G}, [2]int{0, 0}, G - 1, G - 1, 8},
		{[2]int{G, G}, [2]int{1, 1}, 0, G - 1, 8},
		{[2]int{G, G}, [2]int{0, 0}, 0, 0, 8},
		{[2]int{0, 0}, [2]int{G, 1}, G, 0, 8},
		{[2]int{0, 0}, [2]int{G, G}, G - 1, 0, 8},
		{[2]int{2, 0}, [2]int{G, G}, 0, 2, 8},
		{[2]int{1, 1}, [2]int{G, G}, 0, 2, 8},
		{[2]int{G, 0}, [2]int{1, 0}, G, G, 8},
		{[2]int{G, 0}, [2]int{1, 0}, 0, G, 8},
		{[2]int{1, 0}, [2]int{G, 0}, G, 1, 8},
		{[2]int{G, 0}, [2]int{G, 0}, G, G, 8},
		{[2]int{G, 0}, [2]int{G, 2}, 0, G, 8},
	} {
		s := api.Setup{Accounts: []api.Account{{Name: "A", Limit: G}}, Parents: 4}
		v := api.View{Used: []int{c.used}, Realised: []int{c.realised}, Held: []int{0, c.helds[0], 0, c.helds[1]}}
		for i := range 2 {
			p := api.Parent{Account: "A", Qty: 1, Most: 1}
			p.State, p.Worth = api.PCanceled, c.worths[i]
			v.Parents = append(v.Parents, p)
			p.State, p.Worth, p.Need = api.PWorking, c.helds[i], c.helds[i]
			v.Parents = append(v.Parents, p)
		}
		told(t, s, v, c.asked)
		if c.asked == 8 {
			alone(t, s, v, 8)
		}
		s.Accounts[0].Limit = c.used - 1
		told(t, s, v, 8)
	}
}
