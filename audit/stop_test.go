package audit_test

import (
	"testing"

	"spigot/api"
)

// opened is the books with a parent that was done, or was not, in a state; what is held and realised is as it must be.
func opened(v *api.View, place, state int) {
	p := &v.Parents[place]
	was, n := p.State, p.Worth
	if p.State = state; was <= api.PEnding && state > api.PEnding {
		hold(v, place, 0)
		p.Worth = 0
		worth(v, place, n)
	} else if was > api.PEnding && state <= api.PEnding {
		worth(v, place, 0)
		p.Worth = n
		hold(v, place, p.Need)
	}
}

// P30.2, rule 11: Held alone, one more and one less, of each open parent and of several.
func TestHeld(t *testing.T) {
	for _, place := range []int{working, paused, last} {
		for _, n := range []int{-1, 1, -500, 500} {
			after(t, func(v *api.View) { hold(v, place, v.Held[place]+n) }, 11)
		}
		after(t, func(v *api.View) { hold(v, place, v.Parents[place].Need) }, 11)
		after(t, func(v *api.View) { hold(v, place, v.Held[place]) }, 0)
	}
	after(t, func(v *api.View) { hold(v, working, 100001); hold(v, last, 30499) }, 11)
}

// P30.2, rule 11: Held beside each of Qty, Price, End and Busted, which may be more or less.
func TestHeldMayChange(t *testing.T) {
	for _, place := range []int{working, paused, last} {
		for _, n := range []int{-1, 1} {
			for i, change := range []func(p *api.Parent){
				func(p *api.Parent) { p.Qty += n; p.Most = max(p.Most, p.Qty) },
				func(p *api.Parent) { p.Price += n },
				func(p *api.Parent) { p.End += n },
				func(p *api.Parent) { p.Busted++ },
				func(p *api.Parent) { p.Qty += n; p.Price += n; p.End += n; p.Most = max(p.Most, p.Qty) },
			} {
				after(t, func(v *api.View) { change(&v.Parents[place]); hold(v, place, v.Held[place]+n) }, 0)
				after(t, func(v *api.View) { change(&v.Parents[place]) }, 0)
				if t.Failed() {
					t.Fatal(place, i)
				}
			}
			// What else changes doesn't count.
			for _, change := range []func(p *api.Parent){
				func(p *api.Parent) { p.Most++ },
				func(p *api.Parent) { p.Need-- },
				func(p *api.Parent) { p.State = api.PEnding },
			} {
				after(t, func(v *api.View) { change(&v.Parents[place]); hold(v, place, v.Held[place]+n) }, 11)
			}
			// What another parent changes neither.
			after(t, func(v *api.View) {
				v.Parents[(place+1)%6].Price++
				hold(v, place, v.Held[place]+n)
			}, 11)
		}
	}
	// Filled and Worth.
	after(t, func(v *api.View) { execute(v, working, 1, 0); hold(v, working, 99999) }, 11)
	after(t, func(v *api.View) { v.Parents[working].Worth++; hold(v, working, 99999) }, 11)
}

// P30.2, rule 11: of a parent that is done in b, or in a, what is held may change.
func TestHeldOfDone(t *testing.T) {
	for from := api.PWorking; from <= api.PCanceled; from++ {
		for to := api.PWorking; to <= api.PCanceled; to++ {
			a, b := books(), books()
			opened(&a, filled, from)
			opened(&b, filled, to)
			if to <= api.PEnding {
				hold(&b, filled, b.Parents[filled].Need+1)
			}
			told(t, setup(), a, 0)
			told(t, setup(), b, 0)
			switch {
			case from > api.PEnding && from != to:
				// What is done stays: rule 10, not 11.
				cameAlone(t, setup(), a, b, 10)
			case from <= api.PEnding && to <= api.PEnding:
				cameAlone(t, setup(), a, b, 11)
			default:
				came(t, setup(), a, b, 0)
			}
		}
	}
}

// more lets a parent have a child more.
func more(v *api.View, place int) {
	p := &v.Parents[place]
	p.Children = append(p.Children, api.Child{ID: "c", Venue: "V", Side: p.Side, State: api.SRejected})
}

// P30.2, rule 12: a child more, by the parent's states in a and in b, and by whether a and b are killed.
func TestNothingNew(t *testing.T) {
	for from := api.PWorking; from <= api.PCanceled; from++ {
		for to := api.PWorking; to <= api.PCanceled; to++ {
			if from > api.PEnding && from != to {
				continue
			}
			for _, killed := range [][2]bool{{false, false}, {true, false}, {false, true}, {true, true}} {
				for _, place := range []int{working, filled, canceled, last} {
					a, b := books(), books()
					prepare(&a, place, from)
					prepare(&b, place, to)
					a.Killed, b.Killed = killed[0], killed[1]
					told(t, setup(), a, 0)
					told(t, setup(), b, 0)
					came(t, setup(), a, b, 0)
					more(&b, place)
					if from == api.PWorking && killed != [2]bool{true, true} || to == api.PWorking && killed != [2]bool{true, true} {
						came(t, setup(), a, b, 0)
					} else {
						cameAlone(t, setup(), a, b, 12)
					}
					more(&a, place)
					came(t, setup(), a, b, 0)
				}
			}
		}
	}
}

// prepare brings a parent into a state, whichever it is: nothing is claimed of it, and all is filled.
func prepare(v *api.View, place, state int) {
	p := &v.Parents[place]
	for i := range p.Children {
		if c := &p.Children[i]; c.State <= api.SReplacing {
			c.State, c.Claim = api.SCanceled, 0
		}
	}
	add(p)
	p.Qty = 1
	opened(v, place, state)
}

// P30.2, rule 12: killed in a and in b, of whichever parent a child is more; the first one of a parent, too.
func TestNothingNewWhileKilled(t *testing.T) {
	for place := range 6 {
		for _, killed := range [][2]bool{{false, false}, {true, false}, {false, true}, {true, true}} {
			a, b := books(), books()
			more(&b, place)
			a.Killed, b.Killed = killed[0], killed[1]
			if killed == [2]bool{true, true} || place != working && place != last {
				cameAlone(t, setup(), a, b, 12)
			} else {
				came(t, setup(), a, b, 0)
			}
			more(&b, place)
			if killed == [2]bool{true, true} {
				cameAlone(t, setup(), a, b, 12)
			}
		}
	}
}
