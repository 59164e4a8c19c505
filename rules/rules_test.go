package rules_test

import (
	"testing"

	"spigot/api"
	"spigot/rules"
)

// The chapter's example, in the setup of DOC.md's ten examples.
func TestExample(t *testing.T) {
	s := api.Setup{
		Accounts: []api.Account{{Name: "A", Limit: 150000}},
		Symbols:  []api.Symbol{{Name: "X", Lot: 10, Tick: 5, Middle: 1000, Width: 100, Most: 1000, Worth: 1000000}},
		Venues:   []api.Venue{{Name: "V", Lot: 10, Shown: 100, Replaces: true}},
		Parents:  2, Children: 8, Execs: 50, Window: 5, Most: 4, Repeat: 4,
	}
	r := wantRight(t, "the example", s)
	if low, high := r.Band(0); low != 990 || high != 1010 {
		t.Errorf("Band(0): %d, %d", low, high)
	}
	for name, place := range map[string]func(string) (int, bool){"A": r.Account, "X": r.Symbol, "V": r.Venue} {
		for _, asked := range []string{"A", "X", "V"} {
			if i, ok := place(asked); i != 0 || ok != (asked == name) {
				t.Errorf("the place of %s among those of %s: %d, %v", asked, name, i, ok)
			}
		}
	}
}

// P15.2: each name at its place, and nothing else, whatever the sizes; wantRight asks for all of them.
func TestPlaces(t *testing.T) {
	for accounts := 1; accounts <= 16; accounts += 5 {
		for symbols := 1; symbols <= 16; symbols += 3 {
			for venues := 1; venues <= 8; venues++ {
				wantRight(t, "places", setup(accounts, symbols, venues))
			}
		}
	}
}

// P15.2: places are those of the list, whatever order the names have.
func TestPlacesInAnyOrder(t *testing.T) {
	names := []string{"m", "b", "z", "a", "aa", "Z", "!", "~"}
	for turn := range names {
		s := setup(8, 8, 8)
		for i := range names {
			s.Accounts[i].Name = names[(i+turn)%8]
			s.Symbols[i].Name = names[(i*3+turn)%8]
			s.Venues[i].Name = names[(i*5+turn)%8]
		}
		wantRight(t, "any order", s)
	}
}

// P15.2: of rules that are nil, or that New did not make, nothing.
func TestNotMade(t *testing.T) {
	refused, _ := rules.New(api.Setup{})
	for what, r := range map[string]*rules.Rules{"nil": nil, "a plain one": {}, "a new one": new(rules.Rules), "a refused one": refused} {
		for range 2 {
			if got := r.Setup(); !same(got, api.Setup{}) {
				t.Errorf("%s: Setup: %v", what, got)
			}
			for _, name := range append(texts(), "V", "n") {
				for call, place := range map[string]func(string) (int, bool){"Account": r.Account, "Symbol": r.Symbol, "Venue": r.Venue} {
					if i, ok := place(name); i != 0 || ok {
						t.Errorf("%s: %s(%q): %d, %v", what, call, name, i, ok)
					}
				}
			}
			for _, i := range []int{leastInt, -1, 0, 1, 15, 16, greatestInt} {
				if low, high := r.Band(i); low != 0 || high != 0 {
					t.Errorf("%s: Band(%d): %d, %d", what, i, low, high)
				}
			}
		}
	}
}

// Rule 4: what was handed to New may be changed behind it.
func TestGivenMayBeChanged(t *testing.T) {
	for _, s := range []api.Setup{setup(1, 1, 1), setup(3, 4, 5), setup(16, 16, 8)} {
		given := roomy(s)
		r, e := rules.New(given)
		if e != api.OK {
			t.Fatalf("New: %d", e)
		}
		spoil(&given)
		wantRules(t, "changed behind New", r, s)
	}
}

// Rule 4: what Setup hands out may be changed, its spare room too.
func TestHandedOutMayBeChanged(t *testing.T) {
	for _, s := range []api.Setup{setup(1, 1, 1), setup(3, 4, 5), setup(16, 16, 8)} {
		r, e := rules.New(roomy(s))
		if e != api.OK {
			t.Fatalf("New: %d", e)
		}
		one, other := r.Setup(), r.Setup()
		spoil(&one)
		if !same(other, s) {
			t.Fatalf("what was handed out is changed by another one: %v", other)
		}
		wantRules(t, "changed what was handed out", r, s)
		other.Accounts = append(other.Accounts, api.Account{Name: "more"})
		other.Symbols = append(other.Symbols, api.Symbol{Name: "more"})
		other.Venues = append(other.Venues, api.Venue{Name: "more"})
		third := r.Setup()
		third.Accounts = append(third.Accounts, api.Account{Name: "third"})
		third.Symbols = append(third.Symbols, api.Symbol{Name: "third"})
		third.Venues = append(third.Venues, api.Venue{Name: "third"})
		if other.Accounts[len(s.Accounts)].Name != "more" || other.Symbols[len(s.Symbols)].Name != "more" || other.Venues[len(s.Venues)].Name != "more" {
			t.Fatalf("the spare room of what was handed out is shared: %v", other)
		}
		wantRules(t, "appended to what was handed out", r, s)
	}
}

// Rule 8: what lies behind a list's length is not handed out.
func TestSpareRoomStaysBehind(t *testing.T) {
	r := wantRight(t, "spare room", setup(1, 1, 1))
	got := whole(r.Setup())
	for _, a := range got.Accounts[1:] {
		if a != (api.Account{}) {
			t.Errorf("behind the accounts: %v", a)
		}
	}
	for _, x := range got.Symbols[1:] {
		if x != (api.Symbol{}) {
			t.Errorf("behind the symbols: %v", x)
		}
	}
	for _, v := range got.Venues[1:] {
		if v != (api.Venue{}) {
			t.Errorf("behind the venues: %v", v)
		}
	}
}

// Rule 5: rules are each for themselves, and what they were asked does not change what they answer.
func TestRulesBesideEachOther(t *testing.T) {
	small, great := setup(1, 1, 1), setup(16, 16, 8)
	great.Accounts[0].Name, great.Accounts[5].Name = great.Accounts[5].Name, great.Accounts[0].Name
	one, other, again := wantRight(t, "small", small), wantRight(t, "great", great), wantRight(t, "small again", small)
	wantWrong(t, "between", api.Setup{})
	for range 3 {
		wantRules(t, "small", one, small)
		wantRules(t, "great", other, great)
		wantRules(t, "small again", again, small)
	}
	made, e := rules.New(one.Setup())
	if e != api.OK {
		t.Fatalf("New of Setup: %d", e)
	}
	wantRules(t, "made of what was handed out", made, small)
}
