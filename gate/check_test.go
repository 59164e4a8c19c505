package gate_test

import (
	"math/bits"
	"testing"

	"spigot/api"
)

// P16.1: the side is looked at.
func TestSide(t *testing.T) {
	wantCheck(t, example(), api.Buy, 20, 1000, 1000, 20000, api.OK)
	wantCheck(t, example(), api.Sell, 20, 1000, 1010, 20200, api.OK)
	for _, side := range wrongSides() {
		wantError(t, example(), side, 20, 1000, api.ErrArg)
		wantError(t, wide(), side, 1, 1<<40, api.ErrArg)
	}
}

// P16.1: the quantity is from 1 on, and on the symbol's Lot.
func TestLot(t *testing.T) {
	for _, side := range []int{api.Buy, api.Sell} {
		for _, qty := range []int{0, -1, -9, -10, -1000, leastInt, leastInt + 8, 1, 5, 9, 11, 19, 21, 25, 989, 991, 999} {
			wantError(t, example(), side, qty, 1000, api.ErrLot)
		}
		s := wide()
		for _, lot := range []int{1, 2, 7, 1 << 20, 1 << 39, 1 << 40} {
			s.Lot = lot
			s.Middle, s.Width = 1000, 0
			wantCheck(t, s, side, lot, 1000, 1000, lot*1000, api.OK)
			if lot > 1 {
				wantError(t, s, side, lot-1, 1000, api.ErrLot)
				wantError(t, s, side, 1, 1000, api.ErrLot)
			}
			if lot > 1 && lot < 1<<40 {
				wantError(t, s, side, lot+1, 1000, api.ErrLot)
			}
			wantError(t, s, side, 0, 1000, api.ErrLot)
			wantError(t, s, side, -lot, 1000, api.ErrLot)
			wantError(t, s, side, leastInt, 1000, api.ErrLot)
		}
	}
	for n := 10; n <= 1000; n += 10 {
		wantCheck(t, example(), api.Buy, n, 1000, 1000, n*1000, api.OK)
	}
}

// P16.1: the quantity is not above Most, whether that is on the Lot or not.
func TestMost(t *testing.T) {
	for _, side := range []int{api.Buy, api.Sell} {
		s := example()
		s.Worth, s.Width = 1<<62, 0
		for _, most := range []int{1000, 1001, 1009} {
			s.Most = most
			wantCheck(t, s, side, 990, 1000, 1000, 990000, api.OK)
			wantCheck(t, s, side, 1000, 1000, 1000, 1000000, api.OK)
			for _, qty := range []int{1010, 1020, 10000, 1 << 41 * 5, greatestInt - greatestInt%10} {
				wantError(t, s, side, qty, 1000, api.ErrQty)
			}
		}
		s.Most = 999
		wantCheck(t, s, side, 990, 1000, 1000, 990000, api.OK)
		wantError(t, s, side, 1000, 1000, api.ErrQty)
		s.Most = 9
		wantError(t, s, side, 10, 1000, api.ErrQty)
		s.Most = 1
		wantError(t, s, side, 10, 1000, api.ErrQty)
		one := around(1)
		wantCheck(t, one, side, 1<<40, 1, 1, 1<<40, api.OK)
		for _, qty := range []int{1<<40 + 1, 1 << 41, 1 << 62, greatestInt} {
			wantError(t, one, side, qty, 1, api.ErrQty)
		}
		one.Most = 1
		wantCheck(t, one, side, 1, 1, 1, 1, api.OK)
		wantError(t, one, side, 2, 1, api.ErrQty)
		wantError(t, one, side, 1<<32+1, 1, api.ErrQty)
	}
}

// P16.1: the price is from 1 on, and on the symbol's Tick.
func TestTick(t *testing.T) {
	for _, side := range []int{api.Buy, api.Sell} {
		for _, price := range []int{0, -1, -5, -1000, leastInt, leastInt + 3, 1, 4, 6, 989, 991, 999, 1001, 1003, 1004, 1006, 1009, 1011, 1<<40 + 1, greatestInt} {
			wantError(t, example(), side, 20, price, api.ErrTick)
		}
		s := wide()
		s.Worth = 1 << 40
		for _, tick := range []int{2, 7, 1 << 20, 1 << 39, 1 << 40} {
			s.Tick = tick
			at := 1 << 40 / tick * tick
			worth := at
			wantCheck(t, s, side, 1, at, at, worth, api.OK)
			wantError(t, s, side, 1, at-1, api.ErrTick)
			wantError(t, s, side, 1, at+1, api.ErrTick)
			wantError(t, s, side, 1, 0, api.ErrTick)
			wantError(t, s, side, 1, -tick, api.ErrTick)
		}
		s.Tick = 1
		wantError(t, s, side, 1, 0, api.ErrTick)
		wantError(t, s, side, 1, -1, api.ErrTick)
		wantError(t, s, side, 1, leastInt, api.ErrTick)
	}
}

// P16.1: the price is in the symbol's band.
func TestBand(t *testing.T) {
	for _, c := range []struct{ middle, width, tick, low, high int }{
		{1000, 100, 5, 990, 1010}, {1000, 0, 5, 1000, 1000}, {1000, 333, 7, 973, 1029}, {1000, 0, 1, 1000, 1000}, {1000, 1, 1, 1000, 1000},
		{1000, 9999, 1, 1, 1999}, {1, 0, 1, 1, 1}, {1, 9999, 1, 1, 1}, {1000, 9999, 1999, 1999, 1999}, {2, 5000, 1, 1, 3}, {10000, 9999, 1, 1, 19999},
		{1 << 40, 0, 1, 1 << 40, 1 << 40}, {1 << 40, 9999, 1, 109951163, 1 << 40}, {1 << 40, 9999, 1 << 40, 1 << 40, 1 << 40}, {1 << 40, 1, 3, 1099401676614, 1<<40 - 1},
	} {
		s := api.Symbol{Name: "X", Lot: 1, Tick: c.tick, Middle: c.middle, Width: c.width, Most: 1, Worth: 1 << 62}
		for _, price := range []int{c.low, c.high, c.low + (c.high-c.low)/c.tick/2*c.tick} {
			wantCheck(t, s, api.Buy, 1, price, price, price, api.OK)
			wantCheck(t, s, api.Sell, 1, price, c.high, c.high, api.OK)
		}
		for _, side := range []int{api.Buy, api.Sell} {
			if c.low > c.tick {
				wantError(t, s, side, 1, c.low-c.tick, api.ErrBand)
				wantError(t, s, side, 1, c.tick, api.ErrBand)
			} else {
				wantError(t, s, side, 1, c.low-c.tick, api.ErrTick)
			}
			wantError(t, s, side, 1, c.high+c.tick, api.ErrBand)
			wantError(t, s, side, 1, greatestInt-greatestInt%c.tick, api.ErrBand)
		}
	}
}

// P16.1: the worth at the worst price is not above Worth: for Buy at the price, for Sell at the band's upper end, whatever the price.
func TestWorth(t *testing.T) {
	for _, c := range []struct{ side, qty, price, worst, worth int }{
		{api.Buy, 1000, 990, 990, 990000}, {api.Buy, 1000, 1000, 1000, 1000000}, {api.Buy, 1000, 1010, 1010, 1010000}, {api.Buy, 10, 990, 990, 9900},
		{api.Sell, 1000, 990, 1010, 1010000}, {api.Sell, 1000, 1000, 1010, 1010000}, {api.Sell, 1000, 1010, 1010, 1010000}, {api.Sell, 10, 990, 1010, 10100},
	} {
		s := example()
		for _, most := range []int{c.worth, c.worth + 1, 1 << 62} {
			s.Worth = most
			wantCheck(t, s, c.side, c.qty, c.price, c.worst, c.worth, api.OK)
		}
		for _, most := range []int{c.worth - 1, c.qty, 1} {
			s.Worth = most
			wantError(t, s, c.side, c.qty, c.price, api.ErrNotional)
		}
	}
	s := around(1)
	s.Worth = 1
	wantCheck(t, s, api.Buy, 1, 1, 1, 1, api.OK)
	wantError(t, s, api.Buy, 2, 1, api.ErrNotional)
	wantError(t, s, api.Sell, 2, 1, api.ErrNotional)
}

// P16.1: the greatest worth that may be, one above it, and what has no room in 64 bits, whatever its lower bits are.
func TestGreatWorth(t *testing.T) {
	wantProduct(t, 1<<40, 1<<22, 0, 1<<62)
	wantProduct(t, 5*5581*8681, 49477*384773, 0, 1<<62+1)
	wantProduct(t, 7*7*73*127*337, 92737*649657, 0, 1<<63-1)
	wantProduct(t, 1<<40, 1<<23, 0, 1<<63)
	for _, side := range []int{api.Buy, api.Sell} {
		for qty, price := range map[int]int{1 << 40: 1 << 22, 1 << 22: 1 << 40, 1 << 31: 1 << 31} {
			wantCheck(t, around(price), side, qty, price, price, 1<<62, api.OK)
			less := around(price)
			less.Worth = 1<<62 - 1
			wantError(t, less, side, qty, price, api.ErrNotional)
		}
		for _, c := range [][2]int{
			{5 * 5581 * 8681, 49477 * 384773}, {7 * 7 * 73 * 127 * 337, 92737 * 649657}, // one above 2^62, and 2^63 - 1
			{1 << 40, 1 << 23}, {1 << 40, 1<<22 + 1}, {1 << 40, 1 << 24}, {1 << 40, 1<<24 + 1}, {1 << 40, 1 << 40}, {1<<40 - 1, 1<<40 - 1}, {1 << 32, 1 << 32}, {1<<32 + 1, 1 << 32},
			{1 << 39, 1 << 25}, {1 << 40, 3 << 22}, {1 << 40, 7 << 22}, {3 << 38, 1 << 39},
		} {
			wantError(t, around(c[1]), side, c[0], c[1], api.ErrNotional)
			wantError(t, around(c[0]), side, c[1], c[0], api.ErrNotional)
		}
	}
	// what is worth little at the price may be worth too much at the worst one
	s := wide()
	wantCheck(t, s, api.Buy, 1<<30, 1<<30, 1<<30, 1<<60, api.OK)
	wantCheck(t, s, api.Sell, 1<<22, 1<<30, 1<<40, 1<<62, api.OK)
	for _, qty := range []int{1<<22 + 1, 1 << 23, 1 << 24, 1<<24 + 1, 1 << 30} {
		wantError(t, s, api.Sell, qty, 1<<30, api.ErrNotional)
	}
}

// wantProduct holds the numbers of a test against each other, so that they are at the ends that it means.
func wantProduct(t *testing.T, a, b uint64, high, low uint64) {
	t.Helper()
	if h, l := bits.Mul64(a, b); h != high || l != low {
		t.Fatalf("%d times %d: %d, %d", a, b, h, l)
	}
}

// P16.1: of several errors the first one is told: each of the looks may find something, whatever all others find.
func TestFirstError(t *testing.T) {
	errors := []api.Errno{api.ErrArg, api.ErrLot, api.ErrQty, api.ErrTick, api.ErrBand, api.ErrNotional}
	for _, side := range []int{api.Buy, api.Sell} {
		for found := range 1 << len(errors) {
			s, at, qty, price := broken(side, found)
			if found == 0 {
				wantCheck(t, s, at, qty, price, 1010, 10100, api.OK)
				continue
			}
			wantError(t, s, at, qty, price, errors[bits.TrailingZeros(uint(found))])
		}
	}
}

// broken is an order of which just those looks find something wrong whose bits are in found.
func broken(side, found int) (s api.Symbol, at, qty, price int) {
	s, at, qty, price = example(), side, 10, 1010
	if found&1 != 0 {
		at = 3
	}
	if found&2 != 0 {
		qty += 5
	}
	if found&4 != 0 {
		qty += 1000
	}
	if found&8 != 0 {
		price += 1
	}
	if found&16 != 0 {
		price += 50
	}
	if found&8 != 0 && found&16 == 0 {
		price -= 5
	}
	if found&32 != 0 {
		s.Worth = 1
	}
	return s, at, qty, price
}

// P16.1: each look and the next one, at its other edges: below 1, below the band, and no room in 64 bits.
func TestNeighbours(t *testing.T) {
	s := example()
	for _, side := range wrongSides() {
		for _, qty := range []int{0, -10, 25, 1010, 1015, leastInt, greatestInt} {
			wantError(t, s, side, qty, 1000, api.ErrArg)
		}
	}
	for _, side := range []int{api.Buy, api.Sell} {
		for _, qty := range []int{1001, 1005, 1<<40 + 1, greatestInt} {
			wantError(t, s, side, qty, 1000, api.ErrLot)
		}
		for _, price := range []int{0, -5, 1003, leastInt, greatestInt} {
			wantError(t, s, side, 1010, price, api.ErrQty)
			wantError(t, s, side, 0, price, api.ErrLot)
		}
		for _, price := range []int{0, -5, -990, 1, 4, 984, 986, 1011, 1016, leastInt, greatestInt} {
			wantError(t, s, side, 1000, price, api.ErrTick)
		}
		s.Worth = 1
		for _, price := range []int{5, 980, 985, 1015, 1020, 1 << 40 * 5, greatestInt - greatestInt%5} {
			wantError(t, s, side, 1000, price, api.ErrBand)
		}
		s.Worth = 1000000
		far := around(1 << 39)
		for _, price := range []int{1<<39 - 1, 1<<39 + 1, 1, 1 << 40, 1<<40 + 1, greatestInt} {
			wantError(t, far, side, 1<<40, price, api.ErrBand)
		}
		wantError(t, far, side, 1<<40, 1<<39, api.ErrNotional)
	}
}
