package rules_test

import (
	"slices"
	"strconv"
	"strings"
	"testing"

	"spigot/api"
	"spigot/rules"
)

// P15.1: how many there are in each list.
func TestCounts(t *testing.T) {
	for _, k := range kinds() {
		for n := 0; n <= k.most+3; n++ {
			s := setup(2, 2, 2)
			k.size(&s, n)
			what := strconv.Itoa(n) + " " + k.name
			if n >= 1 && n <= k.most {
				wantRight(t, what, s)
			} else {
				wantWrong(t, what, s)
			}
		}
		s := setup(1, 1, 1)
		k.size(&s, 3000)
		wantWrong(t, "3000 "+k.name, s)
	}
	wantRight(t, "one of each", setup(1, 1, 1))
	wantRight(t, "as many as may be of each", setup(16, 16, 8))
	wantWrong(t, "nothing", api.Setup{})
	for _, s := range []api.Setup{setup(0, 0, 0), setup(0, 0, 1), setup(0, 1, 0), setup(1, 0, 0), setup(17, 17, 9)} {
		wantWrong(t, "counts", s)
	}
}

// P15.1: a list without an element may be nil or empty.
func TestNilAndEmpty(t *testing.T) {
	for _, change := range []func(s *api.Setup){
		func(s *api.Setup) { s.Accounts = nil },
		func(s *api.Setup) { s.Accounts = []api.Account{} },
		func(s *api.Setup) { s.Accounts = s.Accounts[:0] },
		func(s *api.Setup) { s.Symbols = nil },
		func(s *api.Setup) { s.Symbols = []api.Symbol{} },
		func(s *api.Setup) { s.Symbols = s.Symbols[:0] },
		func(s *api.Setup) { s.Venues = nil },
		func(s *api.Setup) { s.Venues = []api.Venue{} },
		func(s *api.Setup) { s.Venues = s.Venues[:0] },
	} {
		s := setup(1, 1, 1)
		change(&s)
		if e := rules.Check(s); e != api.ErrRules {
			t.Errorf("Check(%v): %d", s, e)
		}
		if r, e := rules.New(s); r != nil || e != api.ErrRules {
			t.Errorf("New(%v): %v, %d", s, r, e)
		}
	}
}

// spots are the first, a middle and the last place of n.
func spots(n int) []int {
	return slices.Compact([]int{0, n / 2, n - 1})
}

// P15.1: which names may be, in each list and at each place.
func TestNames(t *testing.T) {
	goods := []string{
		"a", "!", "~", "0", "-1", "\u00e9", "\u20ac", "\U0001f600", "a,b", "A", "\u0080", "\ufffc", "\ufffe",
		strings.Repeat("n", 19), strings.Repeat("n", 20), strings.Repeat("\u00e9", 20), strings.Repeat("\U0001f600", 20),
	}
	bads := []string{
		"", " ", "a b", " a", "a ", "=", "a=", "=a", "\x00", "\x01", "a\x01", "a\n", "\x1f", "\x7f", "a\x7fb", "\xff", "a\x80", "\xe2\x82", "\ufffd", "a\ufffdb",
		strings.Repeat("n", 21), strings.Repeat("\u00e9", 21), strings.Repeat("n", 5000), strings.Repeat("n", 20) + " ",
	}
	for _, k := range kinds() {
		for _, n := range []int{1, 2, 5, k.most} {
			for _, i := range spots(n) {
				for _, name := range goods {
					s := setup(2, 2, 2)
					k.size(&s, n)
					*k.called(&s, i) = name
					wantRight(t, k.name+": "+strconv.Quote(name), s)
				}
				for _, name := range bads {
					s := setup(2, 2, 2)
					k.size(&s, n)
					*k.called(&s, i) = name
					wantWrong(t, k.name+": "+strconv.Quote(name), s)
				}
			}
		}
	}
}

// P15.1: no two of one list have the same name, wherever they stand.
func TestTwice(t *testing.T) {
	for _, k := range kinds() {
		for n := 2; n <= k.most; n++ {
			for i := range n {
				for j := range n {
					s := setup(2, 2, 2)
					k.size(&s, n)
					*k.called(&s, i) = *k.called(&s, j)
					what := k.name + ": " + strconv.Itoa(i) + " as " + strconv.Itoa(j) + " of " + strconv.Itoa(n)
					if i == j {
						wantRight(t, what, s)
					} else {
						wantWrong(t, what, s)
					}
				}
			}
			s := setup(2, 2, 2)
			k.size(&s, n)
			for i := range n {
				*k.called(&s, i) = "same"
			}
			wantWrong(t, k.name+": all the same", s)
		}
	}
}

// P15.1: names that are nearly the same are two names.
func TestNearlyTwice(t *testing.T) {
	list := []string{"a", "A", "aa", "\u00e9", "e\u0301", "a!", "!a", strings.Repeat("n", 20), strings.Repeat("n", 19) + "m"}
	for _, k := range kinds() {
		for i, one := range list {
			for _, other := range list[i+1:] {
				s := setup(2, 2, 2)
				k.size(&s, 4)
				*k.called(&s, 0), *k.called(&s, 3) = one, other
				wantRight(t, k.name+": "+one+" and "+other, s)
			}
		}
	}
}

// P15.1 and P15.2: the same name in two lists may be; each list has its own place of it.
func TestSameNameInTwoLists(t *testing.T) {
	for _, a := range []int{0, 1, 3} {
		for _, x := range []int{0, 2, 3} {
			for _, v := range []int{0, 1, 3} {
				s := setup(4, 4, 4)
				s.Accounts[a].Name, s.Symbols[x].Name = "same", "same"
				wantRight(t, "an account and a symbol", s)
				s.Venues[v].Name = "same"
				wantRight(t, "one of each list", s)
				s.Accounts[a].Name = "other"
				wantRight(t, "a symbol and a venue", s)
			}
		}
	}
	s := setup(8, 8, 8)
	for i := range 8 {
		s.Accounts[i].Name = "n" + strconv.Itoa(i)
		s.Symbols[i].Name = "n" + strconv.Itoa(7-i)
		s.Venues[i].Name = "n" + strconv.Itoa((i+3)%8)
	}
	wantRight(t, "all names in all lists", s)
}

// wantEnds tries a number at its ends and beyond them, at a place of a setup that fresh makes.
func wantEnds(t *testing.T, what string, n number, place int, fresh func() api.Setup) {
	t.Helper()
	try := func(value int, want func(t *testing.T, what string, s api.Setup)) {
		t.Helper()
		s := fresh()
		n.set(&s, place, value)
		want(t, what+": "+n.name+" "+strconv.Itoa(value), s)
	}
	right := func(t *testing.T, what string, s api.Setup) {
		t.Helper()
		wantRight(t, what, s)
	}
	for _, value := range []int{n.low, n.high} {
		try(value, right)
	}
	for _, value := range []int{n.low - 1, n.high + 1, n.low - 1<<32, leastInt, leastInt + n.low, greatestInt, -n.high, n.high + 1<<32} {
		try(value, wantWrong)
	}
}

// P15.1: each number at its ends, one beyond them, and far beyond them, at the first, a middle and the last place of its list.
func TestNumbers(t *testing.T) {
	for _, k := range kinds() {
		for _, size := range []int{1, 2, 3, k.most} {
			for _, place := range spots(size) {
				for _, n := range k.numbers {
					wantEnds(t, k.name, n, place, func() api.Setup {
						s := setup(2, 2, 2)
						k.size(&s, size)
						return s
					})
				}
			}
		}
	}
	for _, n := range ownNumbers() {
		wantEnds(t, "the setup", n, 0, func() api.Setup { return setup(2, 2, 2) })
		wantEnds(t, "a full setup", n, 0, func() api.Setup { return setup(16, 16, 8) })
	}
}

// P15.1: all numbers at their ends at once, and a single one beyond them.
func TestAllAtTheirEnds(t *testing.T) {
	low := setup(16, 16, 8)
	high := setup(16, 16, 8)
	for i := range 16 {
		low.Accounts[i].Limit, high.Accounts[i].Limit = 0, 1<<62
		low.Symbols[i] = api.Symbol{Name: low.Symbols[i].Name, Lot: 1, Tick: 1, Middle: 1, Width: 0, Most: 1, Worth: 1}
		high.Symbols[i] = api.Symbol{Name: high.Symbols[i].Name, Lot: 1 << 40, Tick: 1 << 40, Middle: 1 << 40, Width: 9999, Most: 1 << 40, Worth: 1 << 62}
	}
	for i := range 8 {
		low.Venues[i] = api.Venue{Name: low.Venues[i].Name, Lot: 1}
		high.Venues[i] = api.Venue{Name: high.Venues[i].Name, Lot: 1 << 40, Fee: 10000, Shown: 1 << 40, Replaces: true}
	}
	low.Parents, low.Children, low.Execs, low.Window, low.Most, low.Repeat = 1, 1, 1, 1, 1, 2
	high.Parents, high.Children, high.Execs, high.Window, high.Most, high.Repeat = 64, 256, 4096, 1<<30, 1024, 1024
	for what, s := range map[string]api.Setup{"all least": low, "all greatest": high} {
		wantRight(t, what, s)
		lists := []number{}
		for _, k := range kinds() {
			lists = append(lists, k.numbers...)
		}
		for _, n := range append(lists, ownNumbers()...) {
			for _, place := range []int{0, 3, 7} {
				for _, value := range []int{n.low - 1, n.high + 1} {
					one := own(s)
					n.set(&one, place, value)
					wantWrong(t, what+" but "+n.name, one)
				}
			}
		}
	}
}

// P15.1: a symbol has a band whose lower end is at least 1.
func TestBands(t *testing.T) {
	for _, c := range []struct {
		middle, width, tick int
		low, high           int // none, if both are 0
	}{
		{1000, 100, 5, 990, 1010}, {1000, 0, 5, 1000, 1000}, {1000, 333, 7, 973, 1029}, {1000, 0, 1000, 1000, 1000},
		// a lower end of 1
		{1, 0, 1, 1, 1}, {1, 9999, 1, 1, 1}, {10000, 9999, 1, 1, 19999}, {9999, 9999, 1, 1, 19997}, {2, 5000, 1, 1, 3}, {2, 5001, 1, 1, 3}, {2, 4999, 1, 2, 2},
		{10001, 9999, 1, 2, 20000}, {1 << 40, 9999, 1, 109951163, 1 << 40}, {5, 9999, 5, 5, 5}, {100, 9999, 7, 7, 196},
		// a lower end of 0
		{1, 10000, 1, 0, 0}, {1000, 10000, 5, 0, 0}, {1000, 10000, 1, 0, 0}, {1000, 10000, 5000, 0, 0}, {1 << 40, 10000, 1 << 40, 0, 0}, {1 << 40, 10000, 1, 0, 0},
		// no band
		{1000, 0, 7, 0, 0}, {1000, 9, 7, 0, 0}, {750, 100, 500, 0, 0}, {1, 0, 2, 0, 0}, {1, 9999, 2, 0, 0}, {1000, 100, 1 << 40, 0, 0}, {1000, 9999, 2000, 0, 0}, {1000, 9999, 1999, 1999, 1999},
		{1<<40 - 1, 0, 2, 0, 0}, {1<<40 - 1, 9999, 1 << 40, 1 << 40, 1 << 40}, {1 << 39, 9999, 1 << 40, 0, 0}, {1 << 39, 10000, 1 << 40, 0, 0},
		// near to a band
		{1000, 10, 7, 1001, 1001}, {1000, 60, 7, 994, 1001}, {999, 100, 500, 1000, 1000}, {1 << 40, 0, 3, 0, 0}, {1 << 40, 1, 3, 1099401676614, 1<<40 - 1},
	} {
		for _, size := range []int{1, 3, 16} {
			for _, place := range spots(size) {
				s := setup(2, size, 2)
				s.Symbols[place].Middle, s.Symbols[place].Width, s.Symbols[place].Tick = c.middle, c.width, c.tick
				what := "the band of " + strconv.Itoa(c.middle) + ", " + strconv.Itoa(c.width) + ", " + strconv.Itoa(c.tick)
				if c.high == 0 {
					wantWrong(t, what, s)
					continue
				}
				r := wantRight(t, what, s)
				if low, high := r.Band(place); low != c.low || high != c.high {
					t.Fatalf("%s: %d, %d; asked for: %d, %d", what, low, high, c.low, c.high)
				}
			}
		}
	}
}

// P15.1: numbers that the chapter does not hold against each other may be as they are.
func TestNumbersBesideEachOther(t *testing.T) {
	for _, change := range []func(s *api.Setup){
		func(s *api.Setup) { s.Symbols[0].Lot, s.Symbols[0].Most = 1<<40, 1 },
		func(s *api.Setup) { s.Symbols[0].Most, s.Symbols[0].Worth = 1<<40, 1 },
		func(s *api.Setup) { s.Symbols[0].Lot, s.Venues[0].Lot = 7, 11 },
		func(s *api.Setup) { s.Venues[0].Lot, s.Venues[0].Shown = 1<<40, 1 },
		func(s *api.Setup) { s.Symbols[0].Worth, s.Accounts[0].Limit = 1<<62, 0 },
		func(s *api.Setup) { s.Parents, s.Children = 64, 1 },
		func(s *api.Setup) { s.Parents, s.Execs = 64, 1 },
		func(s *api.Setup) { s.Window, s.Most, s.Repeat = 1, 1024, 1024 },
		func(s *api.Setup) { s.Venues[0].Fee, s.Venues[1].Fee = 10000, 10000 },
		func(s *api.Setup) { s.Symbols[1] = s.Symbols[0]; s.Symbols[1].Name = "like" },
		func(s *api.Setup) { s.Accounts[1] = s.Accounts[0]; s.Accounts[1].Name = "like" },
		func(s *api.Setup) { s.Venues[1] = s.Venues[0]; s.Venues[1].Name = "like" },
		func(s *api.Setup) { s.Venues[0].Replaces, s.Venues[1].Replaces = true, true },
		func(s *api.Setup) { s.Venues[0].Replaces, s.Venues[1].Replaces = false, false },
	} {
		s := setup(2, 2, 2)
		change(&s)
		wantRight(t, "beside each other", s)
	}
}
