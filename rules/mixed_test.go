package rules_test

import (
	"math/rand/v2"
	"slices"
	"strconv"
	"testing"

	"spigot/api"
	"spigot/roster"
)

// holds is what P15.1 says of a setup, look by look.
func holds(s api.Setup) bool {
	in := func(n, low, high int) bool { return n >= low && n <= high }
	if !in(len(s.Accounts), 1, 16) || !in(len(s.Symbols), 1, 16) || !in(len(s.Venues), 1, 8) {
		return false
	}
	var accounts, symbols, venues []string
	for _, a := range s.Accounts {
		accounts = append(accounts, a.Name)
		if !in(a.Limit, 0, 1<<62) {
			return false
		}
	}
	for _, x := range s.Symbols {
		symbols = append(symbols, x.Name)
		if !in(x.Lot, 1, 1<<40) || !in(x.Most, 1, 1<<40) || !in(x.Tick, 1, 1<<40) || !in(x.Middle, 1, 1<<40) || !in(x.Width, 0, 10000) || !in(x.Worth, 1, 1<<62) {
			return false
		}
		if low, _, ok := bandOf(x); !ok || low < 1 {
			return false
		}
	}
	for _, v := range s.Venues {
		venues = append(venues, v.Name)
		if !in(v.Lot, 1, 1<<40) || !in(v.Fee, 0, 10000) || !in(v.Shown, 0, 1<<40) {
			return false
		}
	}
	return apart(accounts) && apart(symbols) && apart(venues) &&
		in(s.Parents, 1, 64) && in(s.Children, 1, 256) && in(s.Execs, 1, 4096) && in(s.Window, 1, 1<<30) && in(s.Most, 1, 1024) && in(s.Repeat, 2, 1024)
}

// apart says whether all are names, and no two the same.
func apart(list []string) bool {
	for i, name := range list {
		if !roster.Valid(name) || slices.Contains(list[:i], name) {
			return false
		}
	}
	return true
}

// mix makes setups, the same ones at each run.
type mix struct{ *rand.Rand }

// near is a number of those that are right, most often, or one about their ends.
func (m mix) near(low, high int) int {
	switch m.IntN(40) {
	case 0:
		return low - 1
	case 1:
		return high + 1
	case 2, 3:
		return low
	case 4, 5:
		return high
	}
	return low + m.IntN(high-low+1)
}

func (m mix) name() string {
	if m.IntN(100) == 0 {
		return []string{"", " ", "a=b", "\xff", "this-is-too-long-a-name"}[m.IntN(5)]
	}
	return "n" + strconv.Itoa(m.IntN(1<<(1+m.IntN(20))))
}

// symbol is one with a band, most often.
func (m mix) symbol() api.Symbol {
	x := api.Symbol{Name: m.name(), Lot: m.near(1, 1<<40), Most: m.near(1, 1<<40), Worth: m.near(1, 1<<62)}
	x.Middle = m.near(1, 1<<m.IntN(41))
	x.Width = m.IntN(3) * m.near(0, 1+m.IntN(4999))
	if x.Width < 0 {
		x.Width = m.near(0, 10000)
	}
	x.Tick = m.near(1, 1+max(0, x.Middle>>(2+m.IntN(30))))
	if m.IntN(4) == 0 {
		x.Tick = x.Middle
	}
	return x
}

func (m mix) setup() api.Setup {
	s := api.Setup{Parents: m.near(1, 64), Children: m.near(1, 256), Execs: m.near(1, 4096), Window: m.near(1, 1<<30), Most: m.near(1, 1024), Repeat: m.near(2, 1024)}
	for range m.near(1, 1+m.IntN(16)) {
		s.Accounts = append(s.Accounts, api.Account{Name: m.name(), Limit: m.near(0, 1<<62)})
	}
	for range m.near(1, 1+m.IntN(4)) {
		s.Symbols = append(s.Symbols, m.symbol())
	}
	for range m.near(1, 1+m.IntN(8)) {
		s.Venues = append(s.Venues, api.Venue{Name: m.name(), Lot: m.near(1, 1<<40), Fee: m.near(0, 10000), Shown: m.near(0, 1<<40), Replaces: m.IntN(2) == 0})
	}
	return s
}

// P15.1 and P15.2: mixed setups, held against the chapter's list.
func TestMixed(t *testing.T) {
	m := mix{rand.New(rand.NewPCG(15, 44))}
	right, wrong := 0, 0
	for i := range 30000 {
		s := m.setup()
		what := "mixed setup " + strconv.Itoa(i)
		if holds(s) {
			right++
			wantRight(t, what, s)
		} else {
			wrong++
			wantWrong(t, what, s)
		}
	}
	if right < 1000 || wrong < 1000 {
		t.Errorf("%d are right, %d are wrong: too few of either", right, wrong)
	}
}
