package gate_test

import (
	"math"
	"testing"

	"spigot/api"
	"spigot/gate"
	"spigot/rules"
)

const (
	leastInt    = math.MinInt
	greatestInt = math.MaxInt
)

// example is layer 15's symbol: its band is 990 to 1010.
func example() api.Symbol {
	return api.Symbol{Name: "X", Lot: 10, Tick: 5, Middle: 1000, Width: 100, Most: 1000, Worth: 1000000}
}

// wide is a symbol whose numbers are as great as they may be; each quantity and each price from 109951163 on is on its steps.
func wide() api.Symbol {
	return api.Symbol{Name: "X", Lot: 1, Tick: 1, Middle: 1 << 40, Width: 9999, Most: 1 << 40, Worth: 1 << 62}
}

// around is a symbol with a tick of 1 and all room, whose only price is middle.
func around(middle int) api.Symbol {
	return api.Symbol{Name: "X", Lot: 1, Tick: 1, Middle: middle, Most: 1 << 40, Worth: 1 << 62}
}

// asLayer15 says whether a symbol is one that the promises speak of.
func asLayer15(s api.Symbol) bool {
	return rules.Check(api.Setup{
		Accounts: []api.Account{{Name: "A", Limit: 1}},
		Symbols:  []api.Symbol{s},
		Venues:   []api.Venue{{Name: "V", Lot: 1}},
		Parents:  1, Children: 1, Execs: 1, Window: 1, Most: 1, Repeat: 2,
	}) == api.OK
}

func wantCheck(t *testing.T, s api.Symbol, side, qty, price, worst, worth int, e api.Errno) {
	t.Helper()
	if !asLayer15(s) {
		t.Fatalf("%+v is no symbol as layer 15 has it", s)
	}
	gotWorst, gotWorth, gotE := gate.Check(s, side, qty, price)
	if gotWorst != worst || gotWorth != worth || gotE != e {
		t.Fatalf("Check(%+v, %d, %d, %d): %d, %d, %d; asked for: %d, %d, %d", s, side, qty, price, gotWorst, gotWorth, gotE, worst, worth, e)
	}
}

// wantError asks for zero values beside the error, too.
func wantError(t *testing.T, s api.Symbol, side, qty, price int, e api.Errno) {
	t.Helper()
	wantCheck(t, s, side, qty, price, 0, 0, e)
}

func wantFill(t *testing.T, s api.Symbol, side, limit, price int, may bool) {
	t.Helper()
	if !asLayer15(s) {
		t.Fatalf("%+v is no symbol as layer 15 has it", s)
	}
	if got := gate.Fill(s, side, limit, price); got != may {
		t.Fatalf("Fill(%+v, %d, %d, %d): %v", s, side, limit, price, got)
	}
}

// wrongSides are neither Buy nor Sell; some are so in their lower bits.
func wrongSides() []int {
	return []int{0, 3, 4, -1, -2, 1 << 8, 1<<8 + 1, 1<<32 + 1, 1<<32 + 2, leastInt, leastInt + 1, leastInt + 2, greatestInt}
}

// P16.1: the chapter's examples.
func TestExamples(t *testing.T) {
	s := example()
	wantCheck(t, s, api.Sell, 20, 1000, 1010, 20200, api.OK)
	wantError(t, s, api.Sell, 25, 1000, api.ErrLot)
	wantError(t, s, api.Sell, 20, 1003, api.ErrTick)
	wantError(t, s, api.Sell, 20, 1015, api.ErrBand)
}

// P16.1 and P16.2: of symbols that are not as layer 15 has them no call panics, whatever is beside them.
func TestOtherSymbols(t *testing.T) {
	steps := []int{leastInt, -1, 0, 1, 5, greatestInt}
	middles := []int{leastInt, -1, 0, 1, 1000, 1 << 40, 1<<40 + 1, greatestInt}
	widths := []int{leastInt, -1, 0, 100, 10000, 10001, greatestInt}
	mosts := []int{leastInt, -1, 0, 1 << 40, greatestInt}
	numbers := []int{leastInt, -5, 0, 1, 1000, 1 << 40, greatestInt}
	sides := []int{leastInt, 0, api.Buy, api.Sell, greatestInt}
	for _, lot := range steps {
		for _, tick := range steps {
			for _, middle := range middles {
				for _, width := range widths {
					for _, most := range mosts {
						for _, worth := range mosts {
							s := api.Symbol{Lot: lot, Tick: tick, Middle: middle, Width: width, Most: most, Worth: worth}
							callAll(s, sides, numbers)
						}
					}
				}
			}
		}
	}
	callAll(api.Symbol{}, sides, numbers)
	callAll(api.Symbol{Name: "=\xff"}, sides, numbers)
	none := example()
	none.Tick, none.Width = 7, 0
	callAll(none, sides, append(numbers, 994, 1001))
}

func callAll(s api.Symbol, sides, numbers []int) {
	for _, side := range sides {
		for i, n := range numbers {
			gate.Check(s, side, n, numbers[len(numbers)-1-i])
			gate.Check(s, side, n, n)
			gate.Fill(s, side, n, numbers[len(numbers)-1-i])
			gate.Fill(s, side, n, n)
		}
	}
}

// Both: what a symbol's name is has nothing to do with it, and the same is answered again.
func TestNothingKept(t *testing.T) {
	for _, name := range []string{"X", "other", "\u00e9"} {
		s := example()
		s.Name = name
		for range 3 {
			wantCheck(t, s, api.Sell, 20, 1000, 1010, 20200, api.OK)
			wantError(t, s, api.Buy, 25, 1000, api.ErrLot)
			wantCheck(t, s, api.Buy, 20, 1000, 1000, 20000, api.OK)
			wantFill(t, s, api.Buy, 1000, 995, true)
			wantFill(t, s, api.Buy, 1000, 1005, false)
		}
	}
}
