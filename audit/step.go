package audit

import (
	"spigot/api"
)

// step is a view, and one that comes of it. Either keeps the rules of a view.
type step struct{ a, b api.View }

// stepRules are the rules of what comes of a view.
func stepRules() []rule[step] {
	return []rule[step]{
		{ruleTime, timeGoesOn},
		{ruleStay, parentsStay},
		{ruleHeld, ofPairs(heldStays)},
		{ruleNew, ofPairs(nothingNew)},
	}
}

// ofPairs makes of what is asked of the parents at a place what is asked of all that there were.
func ofPairs(keeps func(s step, place int) bool) func(step) bool {
	return func(s step) bool {
		for i := range s.a.Parents {
			if !keeps(s, i) {
				return false
			}
		}
		return true
	}
}

func timeGoesOn(s step) bool {
	for i, n := range s.a.Faults {
		if s.b.Faults[i] < n {
			return false
		}
	}
	return s.b.Now >= s.a.Now
}

func parentsStay(s step) bool {
	return len(s.b.Parents) >= len(s.a.Parents) && ofPairs(parentStays)(s)
}

func parentStays(s step, place int) bool {
	a, b := s.a.Parents[place], s.b.Parents[place]
	return a.ID == b.ID && a.Account == b.Account && a.Symbol == b.Symbol && a.Side == b.Side && a.Algo == b.Algo && a.Start == b.Start &&
		b.Most >= a.Most && (isOpen(a) || b.State == a.State) &&
		executed(b) >= executed(a) && b.Busted >= a.Busted &&
		childrenStay(a.Children, b.Children)
}

func childrenStay(a, b []api.Child) bool {
	if len(b) < len(a) {
		return false
	}
	for i, c := range a {
		d := b[i]
		if c.ID != d.ID || c.Venue != d.Venue || c.Side != d.Side {
			return false
		}
	}
	return true
}

func heldStays(s step, place int) bool {
	a, b := s.a.Parents[place], s.b.Parents[place]
	same := a.Qty == b.Qty && a.Price == b.Price && a.End == b.End && a.Busted == b.Busted
	return !isOpen(a) || !isOpen(b) || !same || s.a.Held[place] == s.b.Held[place]
}

// nothingNew asks nothing of its own of a parent that was done: by rule 10 it is PWorking neither in a nor in b.
func nothingNew(s step, place int) bool {
	a, b := s.a.Parents[place], s.b.Parents[place]
	idle := a.State != api.PWorking && b.State != api.PWorking
	stopped := idle || s.a.Killed && s.b.Killed
	return !stopped || len(b.Children) <= len(a.Children)
}
