package position_test

import (
	"testing"

	"spigot/api"
)

// Two numbers, neither above its limit, whose product is just 2^63 - 1.
const (
	oneFactor     = 7 * 7 * 73 * 127 * 337
	anotherFactor = 92737 * 649657
)

// sides that are neither Buy nor Sell; the last two are as good as one, if their high bits are lost.
var noSides = []int{leastInt, -2, -1, 0, 3, 4, greatestInt, 1<<32 + api.Buy, 1<<8 + api.Sell}

// beyond is the numbers that are not from 1 to most.
func beyond(most int) []int {
	return []int{leastInt, leastInt + 1, -most, -1, 0, most + 1, most + 2, 2 * most, greatestInt - 1, greatestInt}
}

// held is positions of two accounts and two symbols with something on each side.
func held(t *testing.T) *pair {
	t.Helper()
	x := newPair(t, 2, 2)
	for account := range 2 {
		for symbol := range 2 {
			x.fill(key{account, symbol, api.Buy}, 1000+10*account+symbol, 3, api.OK)
			x.fill(key{account, symbol, api.Sell}, 2000+10*account+symbol, 5, api.OK)
		}
	}
	return x
}

// both tries a Fill and a Bust that are refused alike, and looks that nothing has changed.
func (x *pair) both(k key, qty, price int, want api.Errno) {
	x.t.Helper()
	x.fill(k, qty, price, want)
	x.bust(k, qty, price, want)
	x.same()
}

// P18.2: there must be such an account and such a symbol.
func TestNoSuchPlace(t *testing.T) {
	x := held(t)
	for _, n := range none(2) {
		for _, side := range []int{api.Buy, api.Sell} {
			x.both(key{n, 0, side}, 1, 1, api.ErrArg)
			x.both(key{1, n, side}, 1, 1, api.ErrArg)
			x.both(key{n, n, side}, 1, 1, api.ErrArg)
		}
	}
}

// P18.2: a side is Buy or Sell.
func TestNoSuchSide(t *testing.T) {
	x := held(t)
	for _, side := range noSides {
		x.both(key{0, 0, side}, 1, 1, api.ErrArg)
		x.both(key{1, 1, side}, 1, 1, api.ErrArg)
	}
}

// P18.2: a quantity and a price each have their ends.
func TestNoSuchQtyOrPrice(t *testing.T) {
	x := held(t)
	for _, side := range []int{api.Buy, api.Sell} {
		for _, qty := range beyond(api.MaxQty) {
			x.both(key{0, 1, side}, qty, 1, api.ErrArg)
		}
		for _, price := range beyond(api.MaxPrice) {
			x.both(key{0, 1, side}, 1, price, api.ErrArg)
		}
		for _, n := range beyond(api.MaxQty) {
			x.both(key{0, 1, side}, n, n, api.ErrArg)
		}
	}
}

// P18.2: the ends themselves may be.
func TestEndsOfQtyAndPrice(t *testing.T) {
	for _, side := range []int{api.Buy, api.Sell} {
		for _, n := range [][2]int{{1, 1}, {2, 1}, {1, 2}, {api.MaxQty, 1}, {api.MaxQty - 1, 1}, {1, api.MaxPrice}, {1, api.MaxPrice - 1}, {api.MaxQty, 1<<23 - 1}, {1<<23 - 1, api.MaxPrice}} {
			x := newPair(t, 2, 2)
			x.fill(key{1, 0, side}, n[0], n[1], api.OK)
			x.same()
			x.bust(key{1, 0, side}, n[0], n[1], api.OK)
			x.same()
		}
	}
}

// P18.2: so much more was bought, or sold, each time, and on that side alone.
func TestFills(t *testing.T) {
	x := newPair(t, 1, 1)
	buy, sell := key{0, 0, api.Buy}, key{0, 0, api.Sell}
	x.fill(buy, 10, 100, api.OK)
	wantTold(t, x.b, 0, 0, [5]int{10, 1000, 0, 0, 10})
	x.fill(buy, 1, 7, api.OK)
	wantTold(t, x.b, 0, 0, [5]int{11, 1007, 0, 0, 11})
	x.fill(sell, 20, 2, api.OK)
	wantTold(t, x.b, 0, 0, [5]int{11, 1007, 20, 40, -9})
	x.fill(sell, 1, 1000, api.OK)
	wantTold(t, x.b, 0, 0, [5]int{11, 1007, 21, 1040, -10})
	x.fill(buy, 10, 100, api.OK)
	wantTold(t, x.b, 0, 0, [5]int{21, 2007, 21, 1040, 0})
}

// P18.2: what one execution is worth may be just 2^63 - 1, and no more; products that are small, or 0, if their high bits are lost, are refused too.
func TestWorthOfOne(t *testing.T) {
	for _, side := range []int{api.Buy, api.Sell} {
		for _, n := range [][2]int{{oneFactor, anotherFactor}, {anotherFactor, oneFactor}} {
			x := newPair(t, 1, 2)
			x.fill(key{0, 1, side}, n[0], n[1], api.OK)
			if _, bought := x.b.Bought(0, 1); side == api.Buy && bought != greatestInt {
				t.Errorf("bought for %d", bought)
			}
			if _, sold := x.b.Sold(0, 1); side == api.Sell && sold != greatestInt {
				t.Errorf("sold for %d", sold)
			}
			x.fill(key{0, 1, side}, 1, 1, api.ErrOver)
			x.fill(key{0, 1, 3 - side}, 1, 1, api.OK)
			x.same()
		}
		for _, n := range [][2]int{{1 << 40, 1 << 23}, {1 << 23, 1 << 40}, {1 << 32, 1 << 31}, {oneFactor + 1, anotherFactor}, {oneFactor, anotherFactor + 1}, {1 << 32, 1 << 32}, {1<<32 + 1, 1 << 32}, {1<<32 + 1, 1<<32 + 1}, {1 << 40, 1<<24 + 1}, {1 << 40, 1 << 40}, {1<<40 - 1, 1 << 40}, {1<<40 - 1, 1<<40 - 1}} {
			x := newPair(t, 1, 2)
			x.both(key{0, 1, side}, n[0], n[1], api.ErrOver)
			x.fill(key{0, 1, side}, 5, 6, api.OK)
			x.both(key{0, 1, side}, n[0], n[1], api.ErrOver)
		}
	}
}

// P18.2: what all of them were worth may come to just 2^63 - 1, by small steps and by great ones, and no more.
func TestSumOfWorth(t *testing.T) {
	for _, side := range []int{api.Buy, api.Sell} {
		k := key{1, 1, side}
		x := newPair(t, 2, 2)
		x.fill(k, 1<<39, 1<<23, api.OK) // 2^62
		x.fill(k, 1<<23, 1<<39, api.ErrOver)
		x.fill(k, 1<<39, 1<<23-1, api.OK) // 2^63 - 2^39
		x.fill(k, 1<<39, 1, api.ErrOver)
		x.fill(k, 1, 1<<39, api.ErrOver)
		x.fill(k, 1, 1<<39-2, api.OK) // 2^63 - 2
		x.fill(k, 1, 2, api.ErrOver)
		x.fill(k, 2, 1, api.ErrOver)
		x.fill(k, 1, 1, api.OK) // 2^63 - 1
		x.fill(k, 1, 1, api.ErrOver)
		x.fill(k, oneFactor, anotherFactor, api.ErrOver)
		x.fill(k, 1, api.MaxPrice, api.ErrOver)
		x.same()
		x.bust(k, 1, 7, api.OK)
		x.fill(k, 1, 8, api.ErrOver)
		x.fill(k, 7, 1, api.OK)
		x.fill(k, 1, 1, api.ErrOver)
		x.same()
	}
}

// P18.2, P18.3: quantities may come to just 2^63 - 1, and no more, where busts have left room for what they were worth; there are the net's ends.
func TestSumOfQty(t *testing.T) {
	x := newPair(t, 2, 1)
	for account, side := range []int{api.Buy, api.Sell} {
		k := key{account, 0, side}
		for range 1<<23 - 1 {
			if e := x.b.Fill(account, 0, side, api.MaxQty, 1); e != api.OK {
				t.Fatalf("Fill: %d", e)
			}
		}
		n := product(api.MaxQty, 1<<23-1)
		x.p.counts[k] = count{n, n}
		x.same()
		x.fill(k, api.MaxQty, 1, api.ErrOver)
		x.bust(k, 1, api.MaxPrice, api.OK)
		x.bust(k, 1, api.MaxPrice, api.OK)
		x.fill(k, api.MaxQty, 1, api.OK) // 2^63 - 2
		x.fill(k, 2, 1, api.ErrOver)
		x.fill(k, api.MaxQty, 1, api.ErrOver)
		x.fill(k, 1, 1, api.OK) // 2^63 - 1
		x.fill(k, 1, 1, api.ErrOver)
		x.fill(k, 1, api.MaxPrice-1, api.ErrOver)
		x.same()
	}
	if n := x.b.Net(0, 0); n != greatestInt {
		t.Errorf("the net is %d", n)
	}
	if n := x.b.Net(1, 0); n != -greatestInt {
		t.Errorf("the net is %d", n)
	}
	x.fill(key{0, 0, api.Sell}, 1, 1, api.OK)
	x.fill(key{1, 0, api.Buy}, 1, 1, api.OK)
	x.same()
}

// P18.2: what may not be is told ahead of what has no room.
func TestArgumentsComeFirst(t *testing.T) {
	x := held(t)
	x.fill(key{0, 0, api.Buy}, 1<<39, 1<<23, api.OK)
	x.fill(key{0, 0, api.Sell}, 1<<39, 1<<23, api.OK)
	for _, n := range none(2) {
		x.both(key{n, 0, api.Buy}, api.MaxQty, api.MaxPrice, api.ErrArg)
		x.both(key{0, n, api.Sell}, api.MaxQty, api.MaxPrice, api.ErrArg)
	}
	for _, side := range noSides {
		x.both(key{0, 0, side}, api.MaxQty, api.MaxPrice, api.ErrArg)
	}
	for _, side := range []int{api.Buy, api.Sell} {
		x.both(key{0, 0, side}, api.MaxQty+1, api.MaxPrice, api.ErrArg)
		x.both(key{0, 0, side}, api.MaxQty, api.MaxPrice+1, api.ErrArg)
		x.both(key{0, 0, side}, greatestInt, greatestInt, api.ErrArg)
		x.both(key{0, 0, side}, api.MaxQty, 0, api.ErrArg)
		x.both(key{0, 0, side}, 0, api.MaxPrice, api.ErrArg)
		x.both(key{0, 0, side}, api.MaxQty, api.MaxPrice, api.ErrOver)
	}
}
