package rules_test

import (
	"math"
	"slices"
	"strconv"
	"strings"
	"testing"

	"spigot/api"
	"spigot/rules"
)

const (
	leastInt    = math.MinInt
	greatestInt = math.MaxInt
)

// setup is a right one of so many accounts, symbols and venues; no two of them are the same in their numbers.
func setup(accounts, symbols, venues int) api.Setup {
	s := api.Setup{Parents: 2, Children: 8, Execs: 50, Window: 5, Most: 4, Repeat: 3}
	for i := range accounts {
		s.Accounts = append(s.Accounts, api.Account{Name: "A" + strconv.Itoa(i), Limit: 150000 + i})
	}
	for i := range symbols {
		s.Symbols = append(s.Symbols, api.Symbol{
			Name: "X" + strconv.Itoa(i), Lot: 10 + i, Tick: 5, Middle: 1000 + 10*i, Width: 100 + i, Most: 1000 + i, Worth: 1000000 + i,
		})
	}
	for i := range venues {
		s.Venues = append(s.Venues, api.Venue{Name: "V" + strconv.Itoa(i), Lot: 20 + i, Fee: 30 + i, Shown: 100 + i, Replaces: i%2 == 0})
	}
	return s
}

// own is a setup with the same in it, in memory of its own.
func own(s api.Setup) api.Setup {
	s.Accounts = append([]api.Account{}, s.Accounts...)
	s.Symbols = append([]api.Symbol{}, s.Symbols...)
	s.Venues = append([]api.Venue{}, s.Venues...)
	return s
}

// roomy is a setup with the same in it, and things that aren't right behind each list's length.
func roomy(s api.Setup) api.Setup {
	s.Accounts = append(slices.Clone(s.Accounts), append(slices.Clone(s.Accounts), api.Account{Name: "=", Limit: -7}, api.Account{})...)[:len(s.Accounts)]
	s.Symbols = append(slices.Clone(s.Symbols), append(slices.Clone(s.Symbols), api.Symbol{Name: "=", Lot: -7}, api.Symbol{})...)[:len(s.Symbols)]
	s.Venues = append(slices.Clone(s.Venues), append(slices.Clone(s.Venues), api.Venue{Name: "=", Lot: -7}, api.Venue{})...)[:len(s.Venues)]
	return s
}

// whole is a setup whose lists go on to the end of their memory.
func whole(s api.Setup) api.Setup {
	s.Accounts = s.Accounts[:cap(s.Accounts)]
	s.Symbols = s.Symbols[:cap(s.Symbols)]
	s.Venues = s.Venues[:cap(s.Venues)]
	return s
}

// numbersOf are those of the setup itself.
func numbersOf(s api.Setup) [6]int {
	return [6]int{s.Parents, s.Children, s.Execs, s.Window, s.Most, s.Repeat}
}

func same(a, b api.Setup) bool {
	return slices.Equal(a.Accounts, b.Accounts) && slices.Equal(a.Symbols, b.Symbols) && slices.Equal(a.Venues, b.Venues) && numbersOf(a) == numbersOf(b)
}

// spoil makes all of a setup something else, what lies behind its lists' lengths too.
func spoil(s *api.Setup) {
	all := whole(*s)
	for i := range all.Accounts {
		all.Accounts[i] = api.Account{Name: "spoilt", Limit: -1}
	}
	for i := range all.Symbols {
		all.Symbols[i] = api.Symbol{Name: "spoilt", Middle: -1, Tick: 1}
	}
	for i := range all.Venues {
		all.Venues[i] = api.Venue{Name: "spoilt", Fee: -1}
	}
	*s = api.Setup{Parents: -1, Repeat: -1}
}

// wantRight is the rules of a setup, which are held against it.
func wantRight(t *testing.T, what string, s api.Setup) *rules.Rules {
	t.Helper()
	given := roomy(s)
	before := own(whole(given))
	if e := rules.Check(given); e != api.OK {
		t.Fatalf("%s: Check: %d; asked for: %d", what, e, api.OK)
	}
	r, e := rules.New(given)
	if r == nil || e != api.OK {
		t.Fatalf("%s: New: %v, %d", what, r, e)
	}
	wantRules(t, what, r, s)
	if !same(whole(given), before) {
		t.Fatalf("%s: what was handed in is changed: %v", what, whole(given))
	}
	return r
}

func wantWrong(t *testing.T, what string, s api.Setup) {
	t.Helper()
	given := roomy(s)
	before := own(whole(given))
	if e := rules.Check(given); e != api.ErrRules {
		t.Fatalf("%s: Check: %d; asked for: %d", what, e, api.ErrRules)
	}
	if r, e := rules.New(given); r != nil || e != api.ErrRules {
		t.Fatalf("%s: New: %v, %d; asked for: nil, %d", what, r, e, api.ErrRules)
	}
	if !same(whole(given), before) {
		t.Fatalf("%s: what was handed in is changed: %v", what, whole(given))
	}
}

// wantRules holds all that rules tell against the setup that they were made of.
func wantRules(t *testing.T, what string, r *rules.Rules, s api.Setup) {
	t.Helper()
	if got := r.Setup(); !same(got, s) {
		t.Fatalf("%s: Setup: %v; asked for: %v", what, got, s)
	}
	var accounts, symbols, venues []string
	for _, a := range s.Accounts {
		accounts = append(accounts, a.Name)
	}
	for i, x := range s.Symbols {
		symbols = append(symbols, x.Name)
		low, high := r.Band(i)
		if l, h, ok := bandOf(x); low != l || high != h || !ok {
			t.Fatalf("%s: Band(%d): %d, %d; asked for: %d, %d, %v", what, i, low, high, l, h, ok)
		}
	}
	for _, v := range s.Venues {
		venues = append(venues, v.Name)
	}
	asked := slices.Concat(accounts, symbols, venues, texts())
	wantPlaces(t, what+": Account", r.Account, accounts, asked)
	wantPlaces(t, what+": Symbol", r.Symbol, symbols, asked)
	wantPlaces(t, what+": Venue", r.Venue, venues, asked)
	for _, i := range []int{leastInt, -1 << 32, -len(symbols), -2, -1, len(symbols), len(symbols) + 1, api.MaxSymbols, 1 << 32, greatestInt} {
		if low, high := r.Band(i); low != 0 || high != 0 {
			t.Fatalf("%s: Band(%d): %d, %d", what, i, low, high)
		}
	}
}

// texts are some that are asked for beside the names: most aren't there, some aren't names.
func texts() []string {
	return []string{
		"", "A", "X", "V", "A0", "X0", "V0", "a0", "A00", "A0 ", " A0", "A16", "none", "0", "A0\x00", "=", "\xff", "\ufffd", "\x7f",
		strings.Repeat("n", 20), strings.Repeat("n", 21), strings.Repeat("n", 5000),
	}
}

// wantPlaces asks for all of asked, one by one: of list each has its place, and all others have none.
func wantPlaces(t *testing.T, what string, place func(string) (int, bool), list, asked []string) {
	t.Helper()
	for _, name := range asked {
		i, ok := slices.Index(list, name), true
		if i < 0 {
			i, ok = 0, false
		}
		if got, there := place(name); got != i || there != ok {
			t.Fatalf("%s(%q): %d, %v; asked for: %d, %v", what, name, got, there, i, ok)
		}
	}
}

// bandOf is a symbol's band by the document's words, and whether there is one; its numbers are in their ends.
func bandOf(x api.Symbol) (low, high int, ok bool) {
	// Products are at most 2^40 times 20000, so they have room.
	low = (x.Middle*(10000-x.Width) + 9999) / 10000
	low = (low + x.Tick - 1) / x.Tick * x.Tick
	high = min(x.Middle*(10000+x.Width)/10000, 1<<40)
	high -= high % x.Tick
	return low, high, low <= high
}

// number is one that a setup has: its ends, and where it is.
type number struct {
	name      string
	low, high int
	set       func(s *api.Setup, place, n int)
}

func accountNumbers() []number {
	return []number{
		{"Limit", 0, 1 << 62, func(s *api.Setup, i, n int) { s.Accounts[i].Limit = n }},
	}
}

// symbolNumbers are such that each number may be at its ends: what it needs for its band is set beside it. A width of 10000 is none: a band's lower end is 0 then.
func symbolNumbers() []number {
	return []number{
		{"symbol's Lot", 1, 1 << 40, func(s *api.Setup, i, n int) { s.Symbols[i].Lot = n }},
		{"symbol's Most", 1, 1 << 40, func(s *api.Setup, i, n int) { s.Symbols[i].Most = n }},
		{"Worth", 1, 1 << 62, func(s *api.Setup, i, n int) { s.Symbols[i].Worth = n }},
		{"Tick", 1, 1 << 40, func(s *api.Setup, i, n int) {
			s.Symbols[i].Middle, s.Symbols[i].Width, s.Symbols[i].Tick = 1<<40, 5000, n
		}},
		{"Middle", 1, 1 << 40, func(s *api.Setup, i, n int) {
			s.Symbols[i].Middle, s.Symbols[i].Width, s.Symbols[i].Tick = n, 0, 1
		}},
		{"Middle of a wide band", 1, 1 << 40, func(s *api.Setup, i, n int) {
			s.Symbols[i].Middle, s.Symbols[i].Width, s.Symbols[i].Tick = n, 9999, 1
		}},
		{"Width", 0, 9999, func(s *api.Setup, i, n int) { s.Symbols[i].Width = n }},
		{"Width at the least middle", 0, 9999, func(s *api.Setup, i, n int) {
			s.Symbols[i].Middle, s.Symbols[i].Width, s.Symbols[i].Tick = 1, n, 1
		}},
		{"Width at the greatest middle", 0, 9999, func(s *api.Setup, i, n int) {
			s.Symbols[i].Middle, s.Symbols[i].Width, s.Symbols[i].Tick = 1<<40, n, 1<<20
		}},
	}
}

func venueNumbers() []number {
	return []number{
		{"venue's Lot", 1, 1 << 40, func(s *api.Setup, i, n int) { s.Venues[i].Lot = n }},
		{"Fee", 0, 10000, func(s *api.Setup, i, n int) { s.Venues[i].Fee = n }},
		{"Shown", 0, 1 << 40, func(s *api.Setup, i, n int) { s.Venues[i].Shown = n }},
	}
}

// ownNumbers are those of the setup itself.
func ownNumbers() []number {
	return []number{
		{"Parents", 1, 64, func(s *api.Setup, _, n int) { s.Parents = n }},
		{"Children", 1, 256, func(s *api.Setup, _, n int) { s.Children = n }},
		{"Execs", 1, 1 << 12, func(s *api.Setup, _, n int) { s.Execs = n }},
		{"Window", 1, 1 << 30, func(s *api.Setup, _, n int) { s.Window = n }},
		{"Most", 1, 1 << 10, func(s *api.Setup, _, n int) { s.Most = n }},
		{"Repeat", 2, 1 << 10, func(s *api.Setup, _, n int) { s.Repeat = n }},
	}
}

// kind is one of a setup's lists.
type kind struct {
	name    string
	most    int
	size    func(s *api.Setup, n int) // makes it a right one of n
	called  func(s *api.Setup, i int) *string
	numbers []number
}

func kinds() []kind {
	return []kind{
		{
			"accounts", 16,
			func(s *api.Setup, n int) { s.Accounts = setup(n, 0, 0).Accounts },
			func(s *api.Setup, i int) *string { return &s.Accounts[i].Name },
			accountNumbers(),
		},
		{
			"symbols", 16,
			func(s *api.Setup, n int) { s.Symbols = setup(0, n, 0).Symbols },
			func(s *api.Setup, i int) *string { return &s.Symbols[i].Name },
			symbolNumbers(),
		},
		{
			"venues", 8,
			func(s *api.Setup, n int) { s.Venues = setup(0, 0, n).Venues },
			func(s *api.Setup, i int) *string { return &s.Venues[i].Name },
			venueNumbers(),
		},
	}
}
