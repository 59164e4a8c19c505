package audit_test

import (
	"slices"
	"testing"

	"spigot/api"
	"spigot/audit"
)

// after holds what Step tells of the books, and of the books with something changed, in which rules 9 to 12 alone may be broken.
func after(t *testing.T, change func(v *api.View), asked int) {
	t.Helper()
	b := changed(change)
	if n := first(brokenOf(setup(), b)); n != 0 {
		t.Fatalf("the change breaks rule %d", n)
	}
	if asked == 0 {
		came(t, setup(), books(), b, 0)
	} else {
		cameAlone(t, setup(), books(), b, asked)
	}
}

// before holds what Step tells of the books with something changed, and of the books.
func before(t *testing.T, change func(v *api.View), asked int) {
	t.Helper()
	a := changed(change)
	if n := first(brokenOf(setup(), a)); n != 0 {
		t.Fatalf("the change breaks rule %d", n)
	}
	if asked == 0 {
		came(t, setup(), a, books(), 0)
	} else {
		cameAlone(t, setup(), a, books(), asked)
	}
}

// P30.2: a's number ahead of b's, and b's ahead of rules 9 to 12.
func TestViewsFirst(t *testing.T) {
	breaks := breakers()
	for i := 1; i <= 8; i++ {
		a := changed(breaks[i][0])
		came(t, setup(), a, books(), i)
		came(t, setup(), books(), a, i)
		came(t, setup(), a, a, i)
		for k := 1; k <= 8; k++ {
			b := changed(breaks[k][len(breaks[k])-1])
			came(t, setup(), a, b, i)
			came(t, setup(), b, a, k)
		}
		for _, change := range stepBreakers() {
			b := changed(change)
			came(t, setup(), a, b, i)
			breaks[i][0](&b)
			came(t, setup(), books(), b, i)
		}
	}
	// Whatever lists are too short for, nothing is looked at behind rule 1.
	came(t, setup(), api.View{}, books(), 1)
	came(t, setup(), books(), api.View{}, 1)
	came(t, api.Setup{}, api.View{}, api.View{}, 0)
}

// stepBreakers are changes of what comes of the books, one of each of the rules 9 to 12, which break it alone.
func stepBreakers() []func(v *api.View) {
	return []func(v *api.View){
		func(v *api.View) { v.Faults[1]-- },
		func(v *api.View) { v.Parents[last].Symbol = "X" },
		func(v *api.View) { hold(v, last, v.Held[last]+1) },
		func(v *api.View) { p := &v.Parents[canceled]; p.Children = append(p.Children, api.Child{}) },
	}
}

// P30.2: of two of rules 9 to 12 that are broken the first one is told.
func TestTheFirstRuleOfAStep(t *testing.T) {
	changes := stepBreakers()
	for i, one := range changes {
		after(t, one, i+9)
		for k := i + 1; k < len(changes); k++ {
			b := changed(changes[k])
			one(&b)
			came(t, setup(), books(), b, i+9)
		}
	}
	b := books()
	for i := 3; i >= 0; i-- {
		changes[i](&b)
		came(t, setup(), books(), b, i+9)
	}
}

// P30.2: a and b the same, killed or not, of none and of some.
func TestTheSame(t *testing.T) {
	for _, killed := range []bool{false, true} {
		v := changed(func(v *api.View) { v.Killed = killed })
		came(t, setup(), v, cloned(v), 0)
		came(t, setup(), v, v, 0)
	}
	came(t, setup(), books(), changed(func(v *api.View) { v.Killed = true }), 0)
	came(t, setup(), changed(func(v *api.View) { v.Killed = true }), books(), 0)
}

// P30.2, rule 9: the tick.
func TestTime(t *testing.T) {
	for now, asked := range map[int]int{7: 0, 8: 0, 9: 0, mostTime: 0, 6: 9, 0: 9} {
		after(t, func(v *api.View) { v.Now = now }, asked)
	}
	before(t, func(v *api.View) { v.Now = mostTime }, 9)
	before(t, func(v *api.View) { v.Now = 8 }, 9)
	before(t, func(v *api.View) { v.Now = 0 }, 0)
	a, b := books(), books()
	a.Now, b.Now = mostTime-1, mostTime
	came(t, setup(), a, b, 0)
	cameAlone(t, setup(), b, a, 9)
}

// P30.2, rule 9: each venue's faults on their own.
func TestFaults(t *testing.T) {
	for _, c := range []struct{ one, other, asked int }{
		{0, 2, 0}, {1, 2, 0}, {0, 3, 0}, {5, 5, 0}, {greatestInt, greatestInt, 0},
		{0, 1, 9}, {0, 0, 9}, {1, 1, 9}, {2, 0, 9}, {greatestInt, 1, 9},
	} {
		after(t, func(v *api.View) { v.Faults[0], v.Faults[1] = c.one, c.other }, c.asked)
	}
	before(t, func(v *api.View) { v.Faults[0] = 1 }, 9)
	before(t, func(v *api.View) { v.Faults[0] = greatestInt }, 9)
	before(t, func(v *api.View) { v.Faults[1] = 3 }, 9)
	before(t, func(v *api.View) { v.Faults[1] = 0 }, 0)
	// The first of three, and the last one.
	s, a := setup(), books()
	s.Venues, a.Faults = append(s.Venues, api.Venue{Name: "U"}), []int{3, 3, 3}
	for i := range 3 {
		b := cloned(a)
		b.Faults[i]--
		cameAlone(t, s, a, b, 9)
		b.Faults[i] += 2
		came(t, s, a, b, 0)
	}
}

// P30.2, rule 10: fewer and more parents.
func TestFewerAndMoreParents(t *testing.T) {
	for n := range 6 {
		b := books()
		b.Parents, b.Held = b.Parents[:n], b.Held[:n]
		b.Used, b.Realised = []int{0, 0, 0}, []int{0, 0, 0}
		for i, p := range b.Parents {
			account := slices.Index([]string{"A", "B"}, p.Account)
			b.Used[account] += b.Held[i]
			if p.State > api.PEnding {
				b.Used[account] += p.Worth
				b.Realised[account] += p.Worth
			}
		}
		told(t, setup(), b, 0)
		cameAlone(t, setup(), books(), b, 10)
		came(t, setup(), b, books(), 0)
		came(t, setup(), b, b, 0)
	}
	// A parent more at the front: the others stand at other places.
	s, b := setup(), books()
	s.Parents = 7
	b.Parents, b.Held = append([]api.Parent{b.Parents[unsent]}, b.Parents...), append([]int{0}, b.Held...)
	told(t, s, b, 0)
	came(t, s, books(), b, 10)
	// At the end it may be.
	b = books()
	b.Parents, b.Held = append(b.Parents, b.Parents[unsent]), append(b.Held, 0)
	came(t, s, books(), b, 0)
	came(t, s, b, books(), 10)
	// Two that change places.
	after(t, func(v *api.View) {
		v.Parents[filled], v.Parents[canceled] = v.Parents[canceled], v.Parents[filled]
	}, 10)
}

// P30.2, rule 10: each field that it names alone, of each parent.
func TestStays(t *testing.T) {
	for place := range 6 {
		for i, change := range []func(p *api.Parent){
			func(p *api.Parent) { p.ID = "other" },
			func(p *api.Parent) { p.ID = "" },
			func(p *api.Parent) { p.ID += "x" },
			func(p *api.Parent) { p.Symbol = "Z" },
			func(p *api.Parent) { p.Symbol = "" },
			func(p *api.Parent) { p.Side++ },
			func(p *api.Parent) { p.Side = leastInt },
			func(p *api.Parent) { p.Algo-- },
			func(p *api.Parent) { p.Algo += 1 << 32 },
			func(p *api.Parent) { p.Start++ },
			func(p *api.Parent) { p.Start-- },
			func(p *api.Parent) { p.Start = greatestInt },
		} {
			after(t, func(v *api.View) { change(&v.Parents[place]) }, 10)
			if t.Failed() {
				t.Fatal(place, i)
			}
		}
	}
}

// P30.2, rule 10: the account, with what is kept of it.
func TestAccountStays(t *testing.T) {
	s := setup()
	s.Accounts[0].Limit = 400000
	for place, p := range books().Parents {
		b := books()
		amount := b.Held[place]
		hold(&b, place, 0)
		if p.State > api.PEnding {
			worth(&b, place, 0)
		}
		b.Parents[place].Account = map[string]string{"A": "B", "B": "A"}[p.Account]
		hold(&b, place, amount)
		if p.State > api.PEnding {
			worth(&b, place, p.Worth)
		}
		told(t, s, b, 0)
		cameAlone(t, s, books(), b, 10)
	}
}

// P30.2: what no rule names may change.
func TestMayChange(t *testing.T) {
	for place := range 6 {
		after(t, func(v *api.View) {
			p := &v.Parents[place]
			p.Price, p.End, p.Need = p.Price+1, p.End+1, p.Need-min(p.Need, 1)
		}, 0)
		after(t, func(v *api.View) { v.Parents[place].Price, v.Parents[place].End = leastInt, greatestInt }, 0)
		for i := range books().Parents[place].Children {
			after(t, func(v *api.View) { c := &v.Parents[place].Children[i]; c.Price, c.NextPrice = leastInt, 9 }, 0)
		}
	}
	after(t, func(v *api.View) { v.Parents[working].Worth = 0 }, 0)
	after(t, func(v *api.View) { worth(v, filled, 1) }, 0)
	// A child may go from any state to any other one: layer 20 is not asked.
	after(t, func(v *api.View) {
		p := &v.Parents[working]
		for i := range p.Children {
			c := &p.Children[i]
			c.State, c.Qty, c.Cum, c.Claim = api.SRejected, 0, 0, 0
		}
		p.Children[0].State, p.Children[0].Cum = api.SFilled, 28
		add(p)
	}, 0)
}

// P30.2, rule 10: Most is not less; Qty may be.
func TestMostStays(t *testing.T) {
	for place, p := range books().Parents {
		after(t, func(v *api.View) { v.Parents[place].Most++ }, 0)
		after(t, func(v *api.View) { v.Parents[place].Most = mostQty }, 0)
		before(t, func(v *api.View) { v.Parents[place].Most = mostQty }, 10)
		before(t, func(v *api.View) { v.Parents[place].Most++ }, 10)
		if p.State != api.PFilled {
			after(t, func(v *api.View) { v.Parents[place].Qty = p.Qty - 1 }, 0)
		}
	}
	after(t, func(v *api.View) { v.Parents[working].Most-- }, 10)
	after(t, func(v *api.View) { v.Parents[filled].Most-- }, 10)
	after(t, func(v *api.View) { v.Parents[working].Qty++ }, 0)
}

// P30.2, rule 10: a parent that is done with another state; one that is open may go to any.
func TestDoneStays(t *testing.T) {
	for from := api.PWorking; from <= api.PCanceled; from++ {
		for to := api.PWorking; to <= api.PCanceled; to++ {
			a, b := books(), books()
			for state, v := range map[int]*api.View{from: &a, to: &b} {
				p := &v.Parents[filled]
				if p.State = state; state <= api.PEnding {
					n := p.Worth
					worth(v, filled, 0)
					p.Worth = n
					hold(v, filled, p.Need)
				}
			}
			if from == to {
				b = cloned(a)
			}
			told(t, setup(), a, 0)
			told(t, setup(), b, 0)
			if from > api.PEnding && from != to {
				cameAlone(t, setup(), a, b, 10)
			} else {
				came(t, setup(), a, b, 0)
			}
		}
	}
	after(t, func(v *api.View) { v.Parents[filled].State = api.PCanceled }, 10)
	after(t, func(v *api.View) { p := &v.Parents[canceled]; p.State, p.Qty = api.PFilled, 7 }, 10)
}

// execute lets a parent have so much more filled, and so much more busted.
func execute(v *api.View, place, more, busted int) {
	p := &v.Parents[place]
	for i := range p.Children {
		if c := &p.Children[i]; c.State == api.SFilled || c.State == api.SCanceled {
			c.Cum += more
			break
		}
	}
	p.Busted += busted
	add(p)
}

// P30.2, rule 10: what is filled and busted, together and alone.
func TestExecutedStays(t *testing.T) {
	for _, c := range []struct{ filled, busted, asked int }{
		{0, 0, 0}, {1, 0, 0}, {0, 1, 0}, {1, 1, 0}, {-1, 1, 0}, {-2, 2, 0}, {-1, 2, 0}, {-5, 5, 0},
		{-1, 0, 10}, {-2, 1, 10}, {-5, 4, 10}, {0, -1, 10}, {1, -1, 10}, {2, -1, 10}, {3, -2, 10}, {-1, -1, 10},
	} {
		for _, place := range []int{working, canceled} {
			b := changed(func(v *api.View) { execute(v, place, c.filled, c.busted) })
			told(t, setup(), b, 0)
			came(t, setup(), books(), b, c.asked)
			if list := brokenBy(books(), b); c.asked == 0 && list != nil || c.asked > 0 && !slices.Equal(list, []int{10}) {
				t.Errorf("%+v: %v", c, list)
			}
		}
	}
	// Of one that is PFilled, where all may be taken back.
	after(t, func(v *api.View) { execute(v, filled, -1, 1) }, 0)
	after(t, func(v *api.View) { execute(v, filled, -20, 20) }, 0)
	after(t, func(v *api.View) { execute(v, filled, 3, 7) }, 0)
	before(t, func(v *api.View) { execute(v, filled, -1, 1) }, 10)
	before(t, func(v *api.View) { execute(v, filled, 0, 1) }, 10)
	before(t, func(v *api.View) { execute(v, filled, 1, 0) }, 10)
}

// P30.2, rule 10: a child's ID, Venue and Side alone; fewer children, and others' places.
func TestChildrenStay(t *testing.T) {
	for place, p := range books().Parents {
		for i := range p.Children {
			for _, change := range []func(c *api.Child){
				func(c *api.Child) { c.ID = "" },
				func(c *api.Child) { c.ID += "0" },
				func(c *api.Child) { c.Venue = "" },
				func(c *api.Child) { c.Venue = "U" },
				func(c *api.Child) { c.Side++ },
				func(c *api.Child) { c.Side-- },
				func(c *api.Child) { c.Side = leastInt },
			} {
				after(t, func(v *api.View) { change(&v.Parents[place].Children[i]) }, 10)
				before(t, func(v *api.View) { change(&v.Parents[place].Children[i]) }, 10)
			}
		}
	}
	after(t, func(v *api.View) { p := &v.Parents[working]; p.Children = p.Children[:8] }, 10)
	after(t, func(v *api.View) {
		c := v.Parents[working].Children
		c[7], c[8] = c[8], c[7]
	}, 10)
	after(t, func(v *api.View) {
		p := &v.Parents[last]
		p.Children, p.Busted = nil, 4
		add(p)
	}, 10)
	before(t, func(v *api.View) { p := &v.Parents[working]; p.Children = p.Children[:8] }, 0)
	// One more at the end may be, in front not.
	child := api.Child{ID: "c", Venue: "V", Side: 1, State: api.SPending, Qty: 20, Claim: 20}
	after(t, func(v *api.View) { p := &v.Parents[working]; p.Children = append(p.Children, child); add(p) }, 0)
	after(t, func(v *api.View) {
		p := &v.Parents[working]
		p.Children = append([]api.Child{child}, p.Children...)
		add(p)
	}, 10)
	after(t, func(v *api.View) {
		p := &v.Parents[working]
		p.Children = append(p.Children, child, child, child)
		p.Most = 1000
		add(p)
	}, 0)
}

// P30.2: as the chapter's words have it, of parents by pairs: one that stands behind those that there were is held against nothing.
func TestNewParents(t *testing.T) {
	s, b := setup(), books()
	s.Parents = 8
	b.Parents, b.Held = append(b.Parents, b.Parents[last]), append(b.Held, b.Held[last])
	b.Used[1] += b.Held[last]
	b.Parents[6].ID = "new"
	came(t, s, books(), b, 0)
	b.Parents[6].State = api.PHalted
	came(t, s, books(), b, 0)
	if n := audit.Step(s, b, books()); n != 10 {
		t.Error(n)
	}
}
