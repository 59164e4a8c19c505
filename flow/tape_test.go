package flow_test

import (
	"reflect"
	"testing"

	"spigot/api"
	"spigot/flow"
)

// P25.1: each number of symbols that may be makes a tape on which nothing was traded, with so many and no more.
func TestNew(t *testing.T) {
	for symbols := 1; symbols <= mostSymbols; symbols++ {
		x := newPair(t, symbols)
		for symbol := range symbols {
			x.print(symbol, 1+symbol, api.OK)
		}
		for _, symbol := range none(symbols) {
			x.print(symbol, 1, api.ErrArg)
		}
	}
}

// P25.1: a number of symbols that may not be.
func TestNewRefused(t *testing.T) {
	for _, symbols := range append(outside(1, mostSymbols), 0, mostSymbols+1, 2*mostSymbols, 1<<32+1, 1<<40) {
		if tape, e := flow.New(symbols); tape != nil || e != api.ErrArg {
			t.Errorf("New(%d): %v, %d; the document asks for no tape and ErrArg", symbols, tape, e)
		}
	}
}

// P25.1 and rule 1: of a tape that is nil, or that New did not make, each call tells so, whatever it is handed, and does nothing.
func TestTapesThatNewDidNotMake(t *testing.T) {
	for _, tape := range []*flow.Tape{nil, {}, new(flow.Tape)} {
		for _, symbol := range append(none(1), 0, 1, mostSymbols-1) {
			for _, qty := range append(outside(1, mostQty), 0, 1, 10, mostQty) {
				if e := tape.Print(symbol, qty); e != api.ErrNil {
					t.Errorf("Print(%d, %d) on no tape: %d; the document asks for ErrNil", symbol, qty, e)
				}
			}
			if n := tape.Total(symbol); n != 0 {
				t.Errorf("Total(%d) of no tape: %d; the document asks for 0", symbol, n)
			}
		}
		if tape != nil && !reflect.DeepEqual(*tape, flow.Tape{}) {
			t.Errorf("no tape has become %v", *tape)
		}
	}
}

// P25.1: a total is all that was printed, one behind the other.
func TestTotals(t *testing.T) {
	x := newPair(t, 1)
	for i, qty := range []int{1, 1, 2, 9, 100, 1 << 20, mostQty - 1, mostQty, mostQty, 1} {
		x.print(0, qty, api.OK)
		if want := []int{1, 2, 4, 13, 113, 1048689, 1099512676464, 2199024304240, 3298535932016, 3298535932017}[i]; x.tape.Total(0) != want {
			t.Errorf("behind %d prints the total is %d; the document asks for %d", i+1, x.tape.Total(0), want)
		}
	}
}

// P25.1: a symbol that is none is refused, and changes nothing, whatever the quantity is.
func TestPrintOfNoSymbol(t *testing.T) {
	for _, symbols := range []int{1, 2, 3, mostSymbols} {
		x := newPair(t, symbols)
		x.print(0, 7, api.OK)
		x.print(symbols-1, 8, api.OK)
		for _, symbol := range none(symbols) {
			for _, qty := range append(outside(1, mostQty), 0, 1, 10, mostQty) {
				x.print(symbol, qty, api.ErrArg)
			}
		}
		x.print(0, 7, api.OK)
		x.print(symbols-1, 8, api.OK)
	}
}

// P25.1: a quantity that may be, and one that may not, which changes nothing.
func TestPrintOfQuantities(t *testing.T) {
	for _, symbols := range []int{1, 2, mostSymbols} {
		x := newPair(t, symbols)
		for _, symbol := range []int{0, symbols / 2, symbols - 1} {
			for _, qty := range append(outside(1, mostQty), 0, mostTotal, mostTotal+1) {
				x.print(symbol, qty, api.ErrArg)
			}
			for _, qty := range []int{1, 2, mostQty - 1, mostQty} {
				x.print(symbol, qty, api.OK)
				x.print(symbol, 0, api.ErrArg)
				x.print(symbol, -qty, api.ErrArg)
				x.print(symbol, mostQty+qty, api.ErrArg)
			}
		}
	}
}

// P25.1: a total may be MaxLimit, and no more; what is refused leaves it as it was.
func TestTotalsAtTheLimit(t *testing.T) {
	x := newPair(t, 2)
	x.print(1, 5, api.OK)
	x.fill(0, mostTotal-mostQty)
	x.print(0, mostQty+1, api.ErrArg)
	x.print(0, mostQty-1, api.OK)
	if x.tape.Total(0) != 1<<62-1 {
		t.Fatalf("the total is %d, not one below the limit", x.tape.Total(0))
	}
	for _, qty := range []int{2, 3, 1000, mostQty - 1, mostQty} {
		x.print(0, qty, api.ErrOver)
	}
	x.print(0, 1, api.OK)
	if x.tape.Total(0) != 1<<62 {
		t.Fatalf("the total is %d, not the limit", x.tape.Total(0))
	}
	for range 3 {
		for _, qty := range []int{1, 2, 1000, mostQty - 1, mostQty} {
			x.print(0, qty, api.ErrOver)
		}
	}
	// Another symbol's total is its own.
	x.print(1, mostQty, api.OK)
}

// P25.1: the greatest quantities come to the limit just as well, and one below the greatest is as much too much there as the least.
func TestGreatestQuantitiesToTheLimit(t *testing.T) {
	x := newPair(t, mostSymbols)
	for _, symbol := range []int{0, 7, mostSymbols - 1} {
		x.fill(symbol, mostTotal-mostQty-3)
		x.print(symbol, mostQty, api.OK)
		x.print(symbol, mostQty, api.ErrOver)
		x.print(symbol, 4, api.ErrOver)
		x.print(symbol, 3, api.OK)
		x.print(symbol, 1, api.ErrOver)
	}
	x.print(1, mostQty, api.OK)
}

// P25.1: of several errors ErrArg is told ahead of ErrOver.
func TestErrorsAtOnce(t *testing.T) {
	x := newPair(t, 2)
	x.fill(0, mostTotal)
	x.fill(1, mostTotal-1)
	for _, qty := range append(outside(1, mostQty), 0) {
		for _, symbol := range append(none(2), 0, 1) {
			x.print(symbol, qty, api.ErrArg)
		}
	}
	for _, symbol := range none(2) {
		for _, qty := range []int{1, 2, mostQty} {
			x.print(symbol, qty, api.ErrArg)
		}
	}
	x.print(0, 1, api.ErrOver)
	x.print(1, 2, api.ErrOver)
	x.print(1, 1, api.OK)
}

// P25.1: prints of several symbols among each other: each total is its own.
func TestSymbolsAmongEachOther(t *testing.T) {
	x := newPair(t, mostSymbols)
	for round := 1; round <= 5; round++ {
		for i := range mostSymbols {
			x.print((i*7+round)%mostSymbols, 1<<i*round, api.OK)
			x.print((i*7+round)%mostSymbols, 0, api.ErrArg)
		}
	}
	y := newPair(t, 3)
	for i, step := range []struct{ symbol, qty, first, second, third int }{
		{2, 5, 0, 0, 5}, {0, 7, 7, 0, 5}, {2, 1, 7, 0, 6}, {1, 9, 7, 9, 6}, {0, 7, 14, 9, 6}, {1, 1, 14, 10, 6},
	} {
		y.print(step.symbol, step.qty, api.OK)
		if y.tape.Total(0) != step.first || y.tape.Total(1) != step.second || y.tape.Total(2) != step.third {
			t.Errorf("behind print %d the totals are %d, %d, %d; the document asks for %d, %d, %d", i, y.tape.Total(0), y.tape.Total(1), y.tape.Total(2), step.first, step.second, step.third)
		}
	}
}

// P25.1 and rule 5: two tapes beside each other have nothing in common.
func TestTapesBesideEachOther(t *testing.T) {
	x, y, z := newPair(t, 2), newPair(t, 2), newPair(t, mostSymbols)
	for i := range 20 {
		x.print(i%2, 3, api.OK)
		y.print((i+1)%2, 50, api.OK)
		z.print(i%mostSymbols, 700, api.OK)
		x.print(2, 1, api.ErrArg)
		y.print(0, 0, api.ErrArg)
		x.same()
		y.same()
		z.same()
	}
	x.fill(0, mostTotal)
	x.print(0, 1, api.ErrOver)
	y.print(0, mostQty, api.OK)
	z.print(0, mostQty, api.OK)
	x.same()
	y.same()
}
