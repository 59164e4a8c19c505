package audit_test

import (
	"math"
	"slices"
	"testing"

	"spigot/api"
	"spigot/audit"
	"spigot/gateway"
)

const (
	leastInt    = math.MinInt
	greatestInt = math.MaxInt
	mostQty     = 1 << 40
	mostTime    = 1 << 40
)

// The places of what books tells of: parents of each sort.
const (
	working  = 0 // with a child in each state
	paused   = 1 // of no child
	filled   = 2
	canceled = 3
	unsent   = 4 // canceled, of no child
	last     = 5 // working, with one child
)

// setup is what books is a view of.
func setup() api.Setup {
	return api.Setup{
		Accounts: []api.Account{{Name: "A", Limit: 150000}, {Name: "B", Limit: 400000}, {Name: "C", Limit: 0}},
		Symbols:  []api.Symbol{{Name: "X", Lot: 10, Tick: 5, Middle: 1000, Width: 100, Most: 1000, Worth: 1000000}, {Name: "Y", Lot: 1, Tick: 1, Middle: 1000, Width: 100, Most: 1000, Worth: 1000000}},
		Venues:   []api.Venue{{Name: "V", Lot: 10, Shown: 100, Replaces: true}, {Name: "W", Lot: 5}},
		Parents:  6, Children: 40, Execs: 50, Window: 5, Most: 4, Repeat: 4,
	}
}

// childrenOfAll are children in each state, of which 28 are filled and 56 claimed.
func childrenOfAll() []api.Child {
	child := func(id string, state, qty, next, cum, claim int) api.Child {
		c := api.Child{ID: id, Venue: "V", Side: api.Buy, State: state, Qty: qty, Price: 1000, NextQty: next, Cum: cum, Claim: claim}
		if next > 0 {
			c.NextPrice = 995
		}
		return c
	}
	return []api.Child{
		child("c1", api.SPending, 10, 0, 0, 10),
		child("c2", api.SNew, 10, 0, 0, 10),
		child("c3", api.SPartial, 10, 0, 4, 6),
		child("c4", api.SCanceling, 10, 0, 3, 7),
		child("c5", api.SReplacing, 10, 20, 5, 15),
		child("c6", api.SReplacing, 12, 8, 4, 8),
		child("c7", api.SFilled, 10, 0, 10, 0),
		child("c8", api.SCanceled, 10, 0, 2, 0),
		child("c9", api.SRejected, 10, 0, 0, 0),
	}
}

// books is a view that breaks no rule, with a parent of each sort.
func books() api.View {
	one := func(id string, side, state, qty, cum, claim int) []api.Child {
		return []api.Child{{ID: id, Venue: "W", Side: side, State: state, Qty: qty, Price: 1000, Cum: cum, Claim: claim}}
	}
	return api.View{
		Now: 7,
		Parents: []api.Parent{
			{ID: "p", Account: "A", Symbol: "X", Side: api.Buy, State: api.PWorking, Algo: api.Twap, Qty: 100, Price: 1000, Start: 1, End: 9, Most: 120, Filled: 28, Busted: 3, Worth: 27900, Claims: 56, Need: 98000, Children: childrenOfAll()},
			{ID: "q", Account: "B", Symbol: "Y", Side: api.Sell, State: api.PPaused, Algo: api.Berg, Qty: 50, Price: 1000, Start: 2, End: 20, Most: 50, Need: 50500},
			{ID: "r", Account: "A", Symbol: "X", Side: api.Sell, State: api.PFilled, Algo: api.Flow, Qty: 20, Price: 990, End: 8, Most: 30, Filled: 20, Worth: 20000, Need: 20000, Children: one("c10", api.Sell, api.SFilled, 20, 20, 0)},
			{ID: "s", Account: "B", Symbol: "X", Side: api.Buy, State: api.PCanceled, Algo: api.Vwap, Qty: 40, Price: 1010, End: 8, Most: 40, Filled: 5, Busted: 2, Worth: 5000, Need: 38000, Children: one("c11", api.Buy, api.SCanceled, 10, 5, 0)},
			{ID: "t", Account: "A", Symbol: "Y", Side: api.Buy, State: api.PCanceled, Algo: api.Twap, Qty: 7, Price: 1001, End: 5, Most: 7},
			{ID: "u", Account: "B", Symbol: "Y", Side: api.Buy, State: api.PWorking, Algo: api.Twap, Qty: 30, Price: 1000, End: 30, Most: 30, Filled: 4, Worth: 3900, Claims: 6, Need: 30000, Children: one("c12", api.Buy, api.SPartial, 10, 4, 6)},
		},
		Used:     []int{120000, 87500, 0},
		Realised: []int{20000, 5000, 0},
		Held:     []int{100000, 52000, 0, 0, 0, 30500},
		Faults:   []int{0, 2},
	}
}

// hold lets a parent hold so much, which its account uses.
func hold(v *api.View, parent, amount int) {
	account := slices.Index([]string{"A", "B", "C"}, v.Parents[parent].Account)
	v.Used[account] += amount - v.Held[parent]
	v.Held[parent] = amount
}

// worth lets a parent that is done be worth so much, which is realised of its account.
func worth(v *api.View, parent, amount int) {
	account := slices.Index([]string{"A", "B", "C"}, v.Parents[parent].Account)
	v.Used[account] += amount - v.Parents[parent].Worth
	v.Realised[account] += amount - v.Parents[parent].Worth
	v.Parents[parent].Worth = amount
}

// cloned is a view of memory of its own.
func cloned(v api.View) api.View {
	v.Parents = slices.Clone(v.Parents)
	for i := range v.Parents {
		v.Parents[i].Children = slices.Clone(v.Parents[i].Children)
	}
	v.Used, v.Realised, v.Held, v.Faults = slices.Clone(v.Used), slices.Clone(v.Realised), slices.Clone(v.Held), slices.Clone(v.Faults)
	return v
}

// told holds what Check tells of a view against the number that is asked, and against the plain reckoning.
func told(t *testing.T, s api.Setup, v api.View, asked int) {
	t.Helper()
	if n := audit.Check(s, v); n != asked {
		t.Errorf("Check: %d, asked for %d", n, asked)
	}
	if n := first(brokenOf(s, v)); n != asked {
		t.Errorf("the plain reckoning: %d, asked for %d", n, asked)
	}
}

// alone holds that a rule is the only one that a view breaks.
func alone(t *testing.T, s api.Setup, v api.View, rule int) {
	t.Helper()
	told(t, s, v, rule)
	if list := brokenOf(s, v); !slices.Equal(list, []int{rule}) {
		t.Errorf("the rules %v are broken, not %d alone", list, rule)
	}
}

// changed is the books with something changed.
func changed(change func(v *api.View)) api.View {
	v := books()
	change(&v)
	return v
}

// The chapter's first example, of several setups: a view of a gateway that nothing happened to.
func TestNothingHappened(t *testing.T) {
	small := setup()
	small.Accounts, small.Symbols, small.Venues = small.Accounts[:1], small.Symbols[1:], small.Venues[1:]
	small.Parents, small.Children, small.Execs, small.Window, small.Most, small.Repeat = 1, 1, 1, 1, 1, 2
	for _, s := range []api.Setup{setup(), small} {
		g, e := gateway.New(s)
		if e != api.OK {
			t.Fatal(e)
		}
		told(t, s, g.View(), 0)
		came(t, s, g.View(), g.View(), 0)
	}
}

// The chapter's second example: an account that used one more.
func TestOneMoreUsed(t *testing.T) {
	g, _ := gateway.New(setup())
	for i := range 3 {
		v := g.View()
		v.Used[i]++
		alone(t, setup(), v, 8)
		v = books()
		v.Used[i]++
		alone(t, setup(), v, 8)
	}
}

// P30.3
func TestWord(t *testing.T) {
	for rule, word := range []string{"", "size", "parent", "child", "sum", "most", "done", "need", "account", "time", "stay", "held", "new", "", ""} {
		if told := audit.Word(rule); told != word {
			t.Errorf("Word(%d): %q, asked for %q", rule, told, word)
		}
	}
	for _, rule := range []int{-1, -2, -12, leastInt, leastInt + 1, greatestInt, greatestInt - 1, 1 << 32, 1<<32 + 1, 256, 257} {
		if told := audit.Word(rule); told != "" {
			t.Errorf("Word(%d): %q", rule, told)
		}
	}
}
