package audit_test

import (
	"reflect"
	"slices"
	"testing"

	"spigot/api"
	"spigot/audit"
)

// roomy is a view whose lists have spare room that is written over, with what would break rules if it were read.
func roomy(v api.View) api.View {
	roomyNumbers := func(list []int) []int {
		return append(slices.Clone(list), -1, -1, -1)[:len(list)]
	}
	v.Used, v.Realised, v.Held, v.Faults = roomyNumbers(v.Used), roomyNumbers(v.Realised), roomyNumbers(v.Held), roomyNumbers(v.Faults)
	n := len(v.Parents)
	v.Parents = append(slices.Clone(v.Parents), api.Parent{ID: "spare"}, api.Parent{State: -1})[:n]
	for i := range v.Parents {
		children := v.Parents[i].Children
		v.Parents[i].Children = append(slices.Clone(children), api.Child{Cum: -1}, api.Child{Cum: -1})[:len(children)]
	}
	return v
}

// all is a view with the spare room of its lists.
func all(v api.View) api.View {
	v = cloned(api.View{
		Now: v.Now, Killed: v.Killed, Parents: v.Parents[:cap(v.Parents)],
		Used: v.Used[:cap(v.Used)], Realised: v.Realised[:cap(v.Realised)], Held: v.Held[:cap(v.Held)], Faults: v.Faults[:cap(v.Faults)],
	})
	for i := range v.Parents {
		c := v.Parents[i].Children
		v.Parents[i].Children = slices.Clone(c[:cap(c)])
	}
	return v
}

// Rules 4 and 8 of all layers: what is handed in is neither changed, its spare room neither, nor read behind the lists' lengths.
func TestNotChanged(t *testing.T) {
	breaks := breakers()
	for i, change := range append(slices.Concat(breaks[:]...), func(v *api.View) {}) {
		s, a, b := setup(), roomy(books()), roomy(changed(change))
		s.Accounts = append(s.Accounts, api.Account{Name: "D"})[:3]
		s.Venues = append(s.Venues, api.Venue{Name: "U"})[:2]
		wasA, wasB, before := all(a), all(b), s
		before.Accounts, before.Venues = slices.Clone(s.Accounts[:4]), slices.Clone(s.Venues[:3])
		asked := first(brokenOf(setup(), changed(change)))
		if audit.Check(s, a) != 0 || audit.Check(s, b) != asked || audit.Step(s, a, b) != asked || audit.Step(s, b, a) != asked {
			t.Errorf("the change %d: asked for %d", i, asked)
		}
		if !reflect.DeepEqual(all(a), wasA) || !reflect.DeepEqual(all(b), wasB) {
			t.Errorf("the change %d: a view is changed", i)
		}
		if !reflect.DeepEqual(s.Accounts[:4], before.Accounts) || !reflect.DeepEqual(s.Venues[:3], before.Venues) {
			t.Errorf("the change %d: the setup is changed", i)
		}
	}
	for _, change := range stepBreakers() {
		a, b := roomy(books()), roomy(changed(change))
		wasA, wasB := all(a), all(b)
		audit.Step(setup(), a, b)
		if !reflect.DeepEqual(all(a), wasA) || !reflect.DeepEqual(all(b), wasB) {
			t.Error("a view is changed")
		}
	}
}

// Rules 4 and 5 of all layers: what was handed in before counts for nothing.
func TestNotKept(t *testing.T) {
	s, v, w := setup(), books(), books()
	for range 3 {
		told(t, s, v, 0)
		came(t, s, v, w, 0)
		v.Parents[working].Children[0].Claim++
		told(t, s, v, 3)
		came(t, s, w, v, 3)
		v.Parents[working].Children[0].Claim--
		came(t, s, w, v, 0)
		w.Now++
		came(t, s, w, v, 9)
		w.Now--
		s.Accounts[0].Name = "Z"
		told(t, s, v, 2)
		s.Accounts[0].Name = "A"
		came(t, s, v, w, 0)
		if audit.Word(9) != "time" {
			t.Error(audit.Word(9))
		}
	}
}

// Rule 3 of all layers: lists of nothing are nil or empty.
func TestNilOrEmpty(t *testing.T) {
	s := api.Setup{Accounts: []api.Account{{Name: "A"}}, Venues: []api.Venue{{Name: "V"}}, Parents: 2}
	a := api.View{Used: []int{0}, Realised: []int{0}, Faults: []int{0}}
	b := cloned(a)
	b.Parents, b.Held = []api.Parent{}, []int{}
	came(t, s, a, b, 0)
	came(t, s, b, a, 0)
	s.Accounts, a.Used, a.Realised = nil, nil, nil
	b.Used, b.Realised = []int{}, []int{}
	came(t, s, a, b, 0)
	s.Accounts = []api.Account{}
	came(t, s, b, a, 0)
	c, d := books(), books()
	c.Parents[paused].Children, d.Parents[paused].Children = nil, []api.Child{}
	came(t, setup(), c, d, 0)
	came(t, setup(), d, c, 0)
}
