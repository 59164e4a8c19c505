package grain_test

import (
	"math/big"
	"testing"

	"spigot/api"
	"spigot/grain"
)

const (
	least = -1 << 63
	most  = 1<<63 - 1
)

// numbers are those near which a limit, a word, or a sign ends.
var numbers = []int{
	least, least + 1, -1 << 40, -10, -2, -1, 0, 1, 2, 3, 5, 7, 10, 16, 17, 20, 9999, 10000, 10001,
	1<<31 - 1, 1<<40 - 1, 1 << 40, 1<<40 + 1, 1<<41 - 1, 1 << 62, 1<<62 + 1, most - 2, most - 1, most,
}

// mixed tells numbers of all lengths and both signs, the same ones at each run.
func mixed() func() int {
	x := uint64(88172645463325252)
	return func() int {
		x ^= x << 13
		x ^= x >> 7
		x ^= x << 17
		return int(x) >> (x % 64)
	}
}

func wholeOf(n int) *big.Int { return big.NewInt(int64(n)) }

// asked is what the document asks for, of an exact whole number.
func asked(n *big.Int) (int, api.Errno) {
	if !n.IsInt64() {
		return 0, api.ErrOver
	}
	return int(n.Int64()), api.OK
}

// onStep is n / parts brought on a step, up or down.
func onStep(n *big.Int, parts, step int, up bool) *big.Int {
	size := new(big.Int).Mul(wholeOf(parts), wholeOf(step))
	count, rest := new(big.Int).DivMod(n, size, new(big.Int))
	if up && rest.Sign() > 0 {
		count.Add(count, wholeOf(1))
	}
	return count.Mul(count, wholeOf(step))
}

// P2.1.
func TestOn(t *testing.T) {
	for _, c := range []struct {
		n, step int
		on      bool
	}{
		{15, 5, true}, {14, 5, false}, {16, 5, false}, {0, 5, true}, {0, 1, true}, {0, most, true}, {3, 5, false},
		{5, 5, true}, {1, 1, true}, {most, 1, true}, {most, most, true}, {most - 1, most, false}, {most, 7, true}, {most, 2, false},
		// a step below 1, a number below 0
		{0, 0, false}, {5, 0, false}, {5, -1, false}, {10, -5, false}, {0, -5, false}, {0, least, false},
		{-1, 1, false}, {-10, 5, false}, {-10, -5, false}, {least, 1, false}, {least, 2, false}, {least, least, false}, {-3, 0, false},
	} {
		if got := grain.On(c.n, c.step); got != c.on {
			t.Errorf("On(%d, %d): %v", c.n, c.step, got)
		}
	}
}

// P2.1.
func TestFloorAndCeil(t *testing.T) {
	for _, c := range []struct {
		n, step, floor int
		floorE         api.Errno
		ceil           int
		ceilE          api.Errno
	}{
		{17, 5, 15, api.OK, 20, api.OK}, {15, 5, 15, api.OK, 15, api.OK}, {14, 5, 10, api.OK, 15, api.OK}, {16, 5, 15, api.OK, 20, api.OK},
		{0, 5, 0, api.OK, 0, api.OK}, {1, 5, 0, api.OK, 5, api.OK}, {4, 5, 0, api.OK, 5, api.OK},
		{0, 1, 0, api.OK, 0, api.OK}, {17, 1, 17, api.OK, 17, api.OK}, {most, 1, most, api.OK, most, api.OK},
		{1, most, 0, api.OK, most, api.OK}, {0, most, 0, api.OK, 0, api.OK}, {most, most, most, api.OK, most, api.OK},
		// 2^63 - 1 is on 7, not on 2
		{most, 7, most, api.OK, most, api.OK}, {most - 1, 7, most - 7, api.OK, most, api.OK}, {most - 6, 7, most - 7, api.OK, most, api.OK},
		{most - 1, 2, most - 1, api.OK, most - 1, api.OK}, {most, 2, most - 1, api.OK, 0, api.ErrOver},
		{most, most - 1, most - 1, api.OK, 0, api.ErrOver}, {most, 1 << 62, 1 << 62, api.OK, 0, api.ErrOver},
		{1 << 62, 1 << 62, 1 << 62, api.OK, 1 << 62, api.OK}, {1<<62 + 1, 1 << 62, 1 << 62, api.OK, 0, api.ErrOver},
		// a step below 1, a number below 0
		{17, 0, 0, api.ErrArg, 0, api.ErrArg}, {0, 0, 0, api.ErrArg, 0, api.ErrArg}, {17, -1, 0, api.ErrArg, 0, api.ErrArg},
		{17, -5, 0, api.ErrArg, 0, api.ErrArg}, {17, least, 0, api.ErrArg, 0, api.ErrArg}, {-1, 5, 0, api.ErrArg, 0, api.ErrArg},
		{-5, 5, 0, api.ErrArg, 0, api.ErrArg}, {least, 1, 0, api.ErrArg, 0, api.ErrArg}, {-1, 1, 0, api.ErrArg, 0, api.ErrArg},
		{least, -1, 0, api.ErrArg, 0, api.ErrArg}, {least, 0, 0, api.ErrArg, 0, api.ErrArg}, {most, 0, 0, api.ErrArg, 0, api.ErrArg},
	} {
		if n, e := grain.Floor(c.n, c.step); n != c.floor || e != c.floorE {
			t.Errorf("Floor(%d, %d): %d, %d", c.n, c.step, n, e)
		}
		if n, e := grain.Ceil(c.n, c.step); n != c.ceil || e != c.ceilE {
			t.Errorf("Ceil(%d, %d): %d, %d", c.n, c.step, n, e)
		}
	}
}

func looksAtStep(t *testing.T, n, step int) {
	t.Helper()
	floor, floorE, ceil, ceilE, on := 0, api.ErrArg, 0, api.ErrArg, false
	if step >= 1 && n >= 0 {
		floor, floorE = asked(onStep(wholeOf(n), 1, step, false))
		ceil, ceilE = asked(onStep(wholeOf(n), 1, step, true))
		on = floor == n
	}
	if got, e := grain.Floor(n, step); got != floor || e != floorE {
		t.Errorf("Floor(%d, %d): %d, %d; asked for: %d, %d", n, step, got, e, floor, floorE)
	}
	if got, e := grain.Ceil(n, step); got != ceil || e != ceilE {
		t.Errorf("Ceil(%d, %d): %d, %d; asked for: %d, %d", n, step, got, e, ceil, ceilE)
	}
	if got := grain.On(n, step); got != on {
		t.Errorf("On(%d, %d): %v", n, step, got)
	}
}

// P2.2.
func TestWorth(t *testing.T) {
	for _, c := range []struct {
		qty, price, n int
		e             api.Errno
	}{
		{100, 1000, 100000, api.OK}, {1, 1, 1, api.OK}, {0, 0, 0, api.OK}, {0, 5, 0, api.OK}, {5, 0, 0, api.OK},
		{1 << 40, 1 << 22, 1 << 62, api.OK}, {1 << 22, 1 << 40, 1 << 62, api.OK},
		{api.MaxQty, 0, 0, api.OK}, {0, api.MaxPrice, 0, api.OK}, {api.MaxQty, 1, api.MaxQty, api.OK}, {1, api.MaxPrice, api.MaxPrice, api.OK},
		// 2^63 - 1 is 7 · 7 · 73 · 127 · 337 · 92737 · 649657: parted so, both are below 2^40
		{7 * 73 * 127 * 337, 7 * 92737 * 649657, most, api.OK}, {7 * 92737 * 649657, 7 * 73 * 127 * 337, most, api.OK},
		{1 << 40, 1<<23 - 1, 1<<63 - 1<<40, api.OK}, {1 << 40, 1 << 23, 0, api.ErrOver}, {1 << 23, 1 << 40, 0, api.ErrOver},
		{1<<40 - 1, 1 << 23, 1<<63 - 1<<23, api.OK}, {api.MaxQty, api.MaxPrice, 0, api.ErrOver},
		// no quantity, no price
		{-1, 5, 0, api.ErrArg}, {5, -1, 0, api.ErrArg}, {-1, -1, 0, api.ErrArg}, {-1, 0, 0, api.ErrArg}, {0, -1, 0, api.ErrArg},
		{api.MaxQty + 1, 1, 0, api.ErrArg}, {1, api.MaxPrice + 1, 0, api.ErrArg}, {api.MaxQty + 1, 0, 0, api.ErrArg}, {0, api.MaxPrice + 1, 0, api.ErrArg},
		{api.MaxQty + 1, api.MaxPrice, 0, api.ErrArg}, {api.MaxQty, api.MaxPrice + 1, 0, api.ErrArg},
		{least, least, 0, api.ErrArg}, {most, most, 0, api.ErrArg}, {most, 1, 0, api.ErrArg}, {1, least, 0, api.ErrArg},
	} {
		if n, e := grain.Worth(c.qty, c.price); n != c.n || e != c.e {
			t.Errorf("Worth(%d, %d): %d, %d; asked for: %d, %d", c.qty, c.price, n, e, c.n, c.e)
		}
	}
}

func isIn(n, limit int) bool { return n >= 0 && n <= limit }

func looksAtWorth(t *testing.T, qty, price int) {
	t.Helper()
	n, e := 0, api.ErrArg
	if isIn(qty, 1<<40) && isIn(price, 1<<40) {
		n, e = asked(new(big.Int).Mul(wholeOf(qty), wholeOf(price)))
	}
	if got, gotE := grain.Worth(qty, price); got != n || gotE != e {
		t.Errorf("Worth(%d, %d): %d, %d; asked for: %d, %d", qty, price, got, gotE, n, e)
	}
}

// P2.3.
func TestBand(t *testing.T) {
	for _, c := range []struct {
		middle, width, tick, low, high int
		e                              api.Errno
	}{
		{1000, 333, 7, 973, 1029, api.OK}, {1000, 100, 5, 990, 1010, api.OK},
		// ends that are on the tick themselves, and just beside it
		{1000, 1000, 100, 900, 1100, api.OK}, {1001, 1000, 100, 1000, 1100, api.OK}, {999, 1000, 100, 900, 1000, api.OK},
		// a fraction at an end is brought inward
		{1, 1, 1, 1, 1, api.OK}, {9999, 1, 1, 9999, 9999, api.OK}, {10001, 1, 1, 10000, 10002, api.OK}, {10000, 1, 1, 9999, 10001, api.OK},
		// widths of 0 and of MaxRate
		{1000, 0, 1, 1000, 1000, api.OK}, {1000, 0, 5, 1000, 1000, api.OK}, {1001, 0, 5, 0, 0, api.ErrBand},
		{1000, api.MaxRate, 5, 0, 2000, api.OK}, {1, api.MaxRate, 1, 0, 2, api.OK}, {1, api.MaxRate, 3, 0, 0, api.OK}, {1, api.MaxRate, most, 0, 0, api.OK},
		{0, 0, 1, 0, 0, api.OK}, {0, api.MaxRate, 5, 0, 0, api.OK}, {0, 0, most, 0, 0, api.OK},
		// no price on the tick in it
		{1000, 1, 7, 0, 0, api.ErrBand}, {3, 100, 5, 0, 0, api.ErrBand}, {1000, 100, most, 0, 0, api.ErrBand}, {1, 0, 2, 0, 0, api.ErrBand},
		{1000, 9999, most, 0, 0, api.ErrBand}, {1000, 9999, 1999, 1999, 1999, api.OK}, {1000, 9999, 2000, 0, 0, api.ErrBand},
		// at MaxPrice, and what would pass it
		{api.MaxPrice, 0, 1, api.MaxPrice, api.MaxPrice, api.OK}, {api.MaxPrice, api.MaxRate, 1, 0, api.MaxPrice, api.OK},
		{api.MaxPrice, 1, 1 << 20, 1<<40 - 104*1<<20, api.MaxPrice, api.OK}, {api.MaxPrice, api.MaxRate, 3, 0, api.MaxPrice - 1, api.OK},
		{api.MaxPrice, 0, 3, 0, 0, api.ErrBand}, {api.MaxPrice - 1, 1, 1 << 40, 1 << 40, 1 << 40, api.OK}, {api.MaxPrice, 100, 1<<40 + 1, 0, 0, api.ErrBand},
		{api.MaxPrice, api.MaxRate, 1<<40 + 1, 0, 0, api.OK}, {api.MaxPrice, api.MaxRate, 1 << 41, 0, 0, api.OK}, {api.MaxPrice, 9999, most, 0, 0, api.ErrBand},
		// no middle, no width, no tick
		{-1, 100, 5, 0, 0, api.ErrArg}, {api.MaxPrice + 1, 100, 5, 0, 0, api.ErrArg}, {least, 100, 5, 0, 0, api.ErrArg}, {most, 100, 5, 0, 0, api.ErrArg},
		{1000, -1, 5, 0, 0, api.ErrArg}, {1000, api.MaxRate + 1, 5, 0, 0, api.ErrArg}, {1000, least, 5, 0, 0, api.ErrArg}, {1000, most, 5, 0, 0, api.ErrArg},
		{1000, 100, 0, 0, 0, api.ErrArg}, {1000, 100, -1, 0, 0, api.ErrArg}, {1000, 100, least, 0, 0, api.ErrArg}, {0, api.MaxRate, 0, 0, 0, api.ErrArg},
		{-1, -1, 0, 0, 0, api.ErrArg},
	} {
		low, high, e := grain.Band(c.middle, c.width, c.tick)
		if low != c.low || high != c.high || e != c.e {
			t.Errorf("Band(%d, %d, %d): %d, %d, %d; asked for: %d, %d, %d", c.middle, c.width, c.tick, low, high, e, c.low, c.high, c.e)
		}
	}
}

func bandAsked(middle, width, tick int) (low, high int, e api.Errno) {
	if !isIn(middle, 1<<40) || !isIn(width, 10000) || tick < 1 {
		return 0, 0, api.ErrArg
	}
	from := onStep(new(big.Int).Mul(wholeOf(middle), wholeOf(10000-width)), 10000, tick, true)
	to := new(big.Int).Mul(wholeOf(middle), wholeOf(10000+width))
	if end := new(big.Int).Mul(wholeOf(1<<40), wholeOf(10000)); to.Cmp(end) > 0 {
		to = end
	}
	to = onStep(to, 10000, tick, false)
	if from.Cmp(to) > 0 {
		return 0, 0, api.ErrBand
	}
	return int(from.Int64()), int(to.Int64()), api.OK
}

func looksAtBand(t *testing.T, middle, width, tick int) {
	t.Helper()
	wantLow, wantHigh, wantE := bandAsked(middle, width, tick)
	low, high, e := grain.Band(middle, width, tick)
	if low != wantLow || high != wantHigh || e != wantE {
		t.Errorf("Band(%d, %d, %d): %d, %d, %d; asked for: %d, %d, %d", middle, width, tick, low, high, e, wantLow, wantHigh, wantE)
	}
}

// P2.4.
func TestGood(t *testing.T) {
	for _, c := range []struct {
		side, limit, price int
		good               bool
	}{
		{api.Buy, 5, 5, true}, {api.Buy, 5, 4, true}, {api.Buy, 5, 6, false}, {api.Buy, 0, 0, true}, {api.Buy, -5, -6, true},
		{api.Sell, 5, 5, true}, {api.Sell, 5, 4, false}, {api.Sell, 5, 6, true}, {api.Sell, 0, 0, true}, {api.Sell, -5, -6, false},
		{api.Buy, most, least, true}, {api.Buy, least, most, false}, {api.Sell, most, least, false}, {api.Sell, least, most, true},
	} {
		if got := grain.Good(c.side, c.limit, c.price); got != c.good {
			t.Errorf("Good(%d, %d, %d): %v", c.side, c.limit, c.price, got)
		}
	}
	for _, side := range []int{least, -2, -1, 0, 3, 4, most} {
		for _, price := range []int{4, 5, 6} {
			if grain.Good(side, 5, price) {
				t.Errorf("Good(%d, 5, %d)", side, price)
			}
		}
	}
}

// P2.4.
func TestWorst(t *testing.T) {
	for _, c := range []struct{ side, limit, high, worst int }{
		{api.Buy, 5, 9, 5}, {api.Buy, 9, 5, 9}, {api.Buy, least, most, least}, {api.Buy, 0, 1, 0},
		{api.Sell, 5, 9, 9}, {api.Sell, 9, 5, 5}, {api.Sell, least, most, most}, {api.Sell, 1, 0, 0},
		{0, 5, 9, 5}, {3, 5, 9, 5}, {-1, 5, 9, 5}, {-2, 9, 5, 9}, {least, 5, 9, 5}, {most, 5, 9, 5},
	} {
		if got := grain.Worst(c.side, c.limit, c.high); got != c.worst {
			t.Errorf("Worst(%d, %d, %d): %d", c.side, c.limit, c.high, got)
		}
	}
}

// P2.1 to P2.3: all edges against each other, held against numbers of any length.
func TestEdgesExactly(t *testing.T) {
	for _, a := range numbers {
		for _, b := range numbers {
			looksAtStep(t, a, b)
			looksAtWorth(t, a, b)
			for _, c := range numbers {
				looksAtBand(t, a, b, c)
			}
		}
	}
}

// P2.1 to P2.3.
func TestMixedExactly(t *testing.T) {
	next := mixed()
	for range 50000 {
		a, b, c := next(), next(), next()
		looksAtStep(t, a, b)
		looksAtStep(t, a&most, b&most)
		looksAtWorth(t, a, b)
		looksAtWorth(t, a&(1<<40-1), b&(1<<40-1))
		looksAtBand(t, a, b, c)
		looksAtBand(t, a&(1<<40-1), b&(1<<13-1), c&most)
		looksAtBand(t, 1<<40-a&(1<<20-1), b&(1<<13-1), c&(1<<41-1))
	}
}

// P2.3: whatever small band, its ends are the first and the last price on the tick that lie in it.
func TestSmallBandsPriceByPrice(t *testing.T) {
	for middle := range 40 {
		for _, width := range []int{0, 1, 250, 333, 2500, 3333, 5000, 9999, 10000} {
			for tick := 1; tick < 12; tick++ {
				var in []int
				for price := range 81 {
					near := price*10000 >= middle*(10000-width) && price*10000 <= middle*(10000+width)
					if near && price%tick == 0 {
						in = append(in, price)
					}
				}
				low, high, e := grain.Band(middle, width, tick)
				if len(in) == 0 && (low != 0 || high != 0 || e != api.ErrBand) || len(in) > 0 && (low != in[0] || high != in[len(in)-1] || e != api.OK) {
					t.Fatalf("Band(%d, %d, %d): %d, %d, %d; asked for: %v", middle, width, tick, low, high, e, in)
				}
			}
		}
	}
}
