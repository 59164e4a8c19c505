package audit_test

import (
	"slices"
	"testing"

	"spigot/api"
)

// The books keep all rules.
func TestBooks(t *testing.T) {
	told(t, setup(), books(), 0)
	came(t, setup(), books(), books(), 0)
}

// P30.1, rule 1: each of the lists one shorter, one longer, of none, and nil.
func TestSizeOfLists(t *testing.T) {
	for i, list := range []func(v *api.View) *[]int{
		func(v *api.View) *[]int { return &v.Used },
		func(v *api.View) *[]int { return &v.Realised },
		func(v *api.View) *[]int { return &v.Faults },
		func(v *api.View) *[]int { return &v.Held },
	} {
		for k, change := range []func(list []int) []int{
			func(list []int) []int { return list[:len(list)-1] },
			func(list []int) []int { return list[1:] },
			func(list []int) []int { return append(list, 0) },
			func(list []int) []int { return append(list, list...) },
			func(list []int) []int { return []int{} },
			func(list []int) []int { return nil },
		} {
			v := books()
			*list(&v) = change(*list(&v))
			if alone(t, setup(), v, 1); t.Failed() {
				t.Fatal(i, k)
			}
		}
	}
}

// P30.1, rule 1: the lists against the setup's, one more and one less of its accounts and venues.
func TestSizeOfSetup(t *testing.T) {
	for _, change := range []func(s *api.Setup){
		func(s *api.Setup) { s.Accounts = s.Accounts[:2] },
		func(s *api.Setup) { s.Accounts = append(s.Accounts, api.Account{Name: "D"}) },
		func(s *api.Setup) { s.Accounts = nil },
		func(s *api.Setup) { s.Venues = s.Venues[:1] },
		func(s *api.Setup) { s.Venues = append(s.Venues, api.Venue{Name: "U", Lot: 1}) },
		func(s *api.Setup) { s.Venues = nil },
	} {
		s := setup()
		change(&s)
		alone(t, s, books(), 1)
	}
	// Both changed alike: nothing is wrong.
	s, v := setup(), books()
	s.Accounts, v.Used, v.Realised = append(s.Accounts, api.Account{Name: "D"}), append(v.Used, 0), append(v.Realised, 0)
	s.Venues, v.Faults = append(s.Venues, api.Venue{}), append(v.Faults, 0)
	told(t, s, v, 0)
	s.Venues, v.Faults = nil, nil
	told(t, s, v, 0)
	s.Venues, v.Faults = []api.Venue{}, nil
	told(t, s, v, 0)
	// How many symbols, children and executions there may be is asked nowhere.
	s = setup()
	s.Symbols, s.Children, s.Execs, s.Window, s.Most, s.Repeat = nil, 0, -1, 0, leastInt, greatestInt
	told(t, s, books(), 0)
}

// P30.1, rule 1: as many parents as there may be, one more, and a bound that is none.
func TestSizeOfParents(t *testing.T) {
	for n, asked := range map[int]int{6: 0, 7: 0, 64: 0, greatestInt: 0, 5: 1, 1: 1, 0: 1, -1: 1, leastInt: 1} {
		s := setup()
		s.Parents = n
		told(t, s, books(), asked)
	}
	s, v := setup(), books()
	v.Parents, v.Held = append(v.Parents, v.Parents[unsent]), append(v.Held, 0)
	alone(t, s, v, 1)
	s.Parents = 7
	told(t, s, v, 0)
	none := api.View{Used: []int{0, 0, 0}, Realised: []int{0, 0, 0}, Faults: []int{0, 0}}
	for n, asked := range map[int]int{0: 0, 1: 0, -1: 1, leastInt: 1} {
		s.Parents = n
		told(t, s, none, asked)
	}
}

// P30.1, rule 1: the tick.
func TestSizeOfNow(t *testing.T) {
	for now, asked := range map[int]int{0: 0, 1: 0, mostTime - 1: 0, mostTime: 0, -1: 1, leastInt: 1, mostTime + 1: 1, greatestInt: 1} {
		v := books()
		v.Now = now
		told(t, setup(), v, asked)
	}
}

// P30.1, rule 1: no number of the lists is below 0, at whichever place.
func TestSizeOfNumbers(t *testing.T) {
	for place := range 2 {
		for n, asked := range map[int]int{0: 0, 1: 0, greatestInt: 0, -1: 1, leastInt: 1} {
			v := books()
			v.Faults[place] = n
			told(t, setup(), v, asked)
		}
	}
	for _, n := range []int{-1, leastInt, leastInt + 20000} {
		for place := range 3 {
			told(t, setup(), changed(func(v *api.View) { v.Used[place] = n }), 1)
			told(t, setup(), changed(func(v *api.View) { v.Realised[place] = n }), 1)
		}
		for place := range 6 {
			told(t, setup(), changed(func(v *api.View) { v.Held[place] = n }), 1)
		}
	}
	// An account of which nothing is kept, and a parent for which nothing is: 0 is not below 0.
	v := books()
	if v.Used[2] != 0 || v.Realised[2] != 0 || v.Held[last-1] != 0 || v.Faults[0] != 0 {
		t.Error(v)
	}
	// What is held makes good what is used of an account, but may not be below 0.
	told(t, setup(), changed(func(v *api.View) { hold(v, unsent, -1) }), 1)
	told(t, setup(), changed(func(v *api.View) { hold(v, filled, -20000) }), 1)
}

// P30.1: setups that aren't right: an empty one is of an empty view, accounts of one name are as good as any.
func TestSetupsNotRight(t *testing.T) {
	told(t, api.Setup{}, api.View{}, 0)
	told(t, api.Setup{}, api.View{Killed: true, Now: mostTime, Parents: []api.Parent{}, Used: []int{}, Realised: []int{}, Held: []int{}, Faults: []int{}}, 0)
	told(t, api.Setup{}, api.View{Now: mostTime + 1}, 1)
	told(t, api.Setup{}, books(), 1)
	told(t, setup(), api.View{}, 1)
	told(t, api.Setup{Accounts: []api.Account{{}}, Parents: 1}, api.View{Parents: []api.Parent{{State: 1, Qty: 1, Most: 1}}, Used: []int{0}, Realised: []int{0}, Held: []int{0}}, 0)
	// The first and the third account have one name: what is kept of it is kept of either.
	s, v := setup(), books()
	s.Accounts[2] = s.Accounts[0]
	alone(t, s, v, 8)
	v.Used[2], v.Realised[2] = v.Used[0], v.Realised[0]
	told(t, s, v, 0)
	s.Accounts[2].Limit = v.Used[2] - 1
	alone(t, s, v, 8)
	// Limits that no account has.
	s = setup()
	s.Accounts[2].Limit = -1
	alone(t, s, books(), 8)
	s.Accounts[2].Limit = leastInt
	alone(t, s, books(), 8)
	s.Accounts[2].Limit = greatestInt
	told(t, s, books(), 0)
}

// P30.1: of two rules that are broken the first one is told, of one parent and of several.
func TestTheFirstRule(t *testing.T) {
	breaks := breakers()
	for i := 1; i <= 8; i++ {
		for _, one := range breaks[i] {
			for k := i + 1; k <= 8; k++ {
				for _, other := range breaks[k] {
					v := books()
					other(&v)
					told(t, setup(), v, k)
					one(&v)
					told(t, setup(), v, i)
				}
			}
			if v := changed(one); !slices.Equal(brokenOf(setup(), v), []int{i}) {
				t.Errorf("rule %d isn't broken alone: %v", i, brokenOf(setup(), v))
			}
		}
	}
	// All eight.
	v := books()
	for i := 8; i > 0; i-- {
		breaks[i][0](&v)
		told(t, setup(), v, i)
	}
}

// breakers are, of each rule of a view, changes of the first parents and of the last ones each of which breaks it alone, and no other one of which mends it.
func breakers() [9][]func(v *api.View) {
	var list [9][]func(v *api.View)
	list[1] = []func(v *api.View){
		func(v *api.View) { v.Now = -1 },
		func(v *api.View) { v.Faults[1] = -1 },
	}
	for _, i := range []int{working, last} {
		list[2] = append(list[2], func(v *api.View) { v.Parents[i].State = 0 })
		list[3] = append(list[3], func(v *api.View) { v.Parents[i].Children[0].Claim++; v.Parents[i].Claims++ })
		list[4] = append(list[4], func(v *api.View) { v.Parents[i].Claims-- })
		list[5] = append(list[5], func(v *api.View) {
			p := &v.Parents[i]
			p.Qty = p.Filled + p.Busted + p.Claims - 2
			p.Most = p.Qty
		})
		list[7] = append(list[7], func(v *api.View) { hold(v, i, v.Parents[i].Need-1) })
	}
	for _, i := range []int{filled, canceled} {
		list[6] = append(list[6], func(v *api.View) { hold(v, i, 1) })
	}
	for i := range 3 {
		list[8] = append(list[8], func(v *api.View) { v.Used[i] += 2 })
	}
	return list
}
