package gate_test

import (
	"math/big"
	"math/rand/v2"
	"testing"

	"spigot/api"
)

// bandOf is a symbol's band by the document's words; its numbers are in their ends.
func bandOf(s api.Symbol) (low, high int) {
	// Products are at most 2^40 times 20000, so they have room.
	low = (s.Middle*(10000-s.Width) + 9999) / 10000
	low = (low + s.Tick - 1) / s.Tick * s.Tick
	high = min(s.Middle*(10000+s.Width)/10000, 1<<40)
	return low, high - high%s.Tick
}

// checked is what P16.1 says, look by look.
func checked(s api.Symbol, side, qty, price int) (worst, worth int, e api.Errno) {
	low, high := bandOf(s)
	worst = price
	if side == 2 {
		worst = high
	}
	product := new(big.Int).Mul(big.NewInt(int64(qty)), big.NewInt(int64(worst)))
	for _, look := range []struct {
		wrong bool
		e     api.Errno
	}{
		{side != 1 && side != 2, api.ErrArg},
		{qty < 1 || qty%s.Lot != 0, api.ErrLot},
		{qty > s.Most, api.ErrQty},
		{price < 1 || price%s.Tick != 0, api.ErrTick},
		{price < low || price > high, api.ErrBand},
		{product.Cmp(big.NewInt(int64(s.Worth))) > 0, api.ErrNotional},
	} {
		if look.wrong {
			return 0, 0, look.e
		}
	}
	return worst, int(product.Int64()), api.OK
}

// filled is what P16.2 says.
func filled(s api.Symbol, side, limit, price int) bool {
	_, high := bandOf(s)
	better := side == 1 && price <= limit || side == 2 && price >= limit
	return price >= 1 && better && price <= high
}

// mix makes symbols and orders, the same ones at each run.
type mix struct{ *rand.Rand }

// upTo is a number from 1 on, of any length.
func (m mix) upTo(most int) int {
	return 1 + m.IntN(min(most, 1<<m.IntN(63)))
}

// symbol is one as layer 15 has it.
func (m mix) symbol() api.Symbol {
	for {
		s := api.Symbol{Name: "X", Lot: m.upTo(1 << (1 + m.IntN(40))), Middle: m.upTo(1 << 40), Most: m.upTo(1 << 40), Worth: m.upTo(1 << 62)}
		s.Width = m.IntN(10001) >> m.IntN(14)
		s.Tick = m.upTo(1 + s.Middle>>m.IntN(20))
		if m.IntN(2) == 0 {
			s.Lot, s.Most, s.Worth = 1+m.IntN(9), 1<<(10+m.IntN(31)), 1<<(20+m.IntN(43))
		}
		if asLayer15(s) {
			return s
		}
	}
}

// near is a number on a step between low and high most often, or about them, or about the step, or anything.
func (m mix) near(low, high, step int) int {
	switch m.IntN(12) {
	case 0:
		return low + m.IntN(3) - 1
	case 1:
		return high + m.IntN(3) - 1
	case 2:
		return low - step
	case 3:
		return high - high%step + step
	case 4:
		return low + m.IntN(high-low+1)
	case 5:
		return int(m.Uint64()) >> m.IntN(64)
	}
	return low + m.IntN((high-low)/step+1)*step
}

// worthAbout sets a symbol's Worth to about what an order is worth, where it has room for it.
func (m mix) worthAbout(s *api.Symbol, side, qty, price int) {
	roomy := *s
	roomy.Worth = 1 << 62
	if _, worth, e := checked(roomy, side, qty, price); e == api.OK {
		s.Worth = min(max(1, worth+m.IntN(3)-1), 1<<62)
	}
}

// P16.1: mixed orders, held against the chapter's list.
func TestMixedCheck(t *testing.T) {
	m := mix{rand.New(rand.NewPCG(16, 47))}
	met := map[api.Errno]int{}
	for range 200000 {
		s := m.symbol()
		low, high := bandOf(s)
		side, qty, price := 1+m.IntN(2), m.near(s.Lot, max(s.Lot, s.Most), s.Lot), m.near(low, high, s.Tick)
		if m.IntN(20) == 0 {
			side = m.IntN(8) - 3
		}
		if m.IntN(3) == 0 {
			m.worthAbout(&s, side, qty, price)
		}
		worst, worth, e := checked(s, side, qty, price)
		met[e]++
		wantCheck(t, s, side, qty, price, worst, worth, e)
	}
	for _, e := range []api.Errno{api.OK, api.ErrArg, api.ErrLot, api.ErrQty, api.ErrTick, api.ErrBand, api.ErrNotional} {
		if met[e] < 1000 {
			t.Errorf("%d of the error %d: too few", met[e], e)
		}
	}
}

// P16.2: mixed executions, held against the chapter's words.
func TestMixedFill(t *testing.T) {
	m := mix{rand.New(rand.NewPCG(16, 2))}
	met := map[bool]int{}
	for range 200000 {
		s := m.symbol()
		low, high := bandOf(s)
		side, limit := 1+m.IntN(2), m.near(low, high, s.Tick)
		if m.IntN(20) == 0 {
			side = m.IntN(8) - 3
		}
		price := m.near(low, high, s.Tick)
		if m.IntN(3) == 0 && limit > leastInt && limit < greatestInt {
			price = limit + m.IntN(3) - 1
		}
		may := filled(s, side, limit, price)
		met[may]++
		wantFill(t, s, side, limit, price, may)
	}
	if met[true] < 1000 || met[false] < 1000 {
		t.Errorf("%v: too few of either", met)
	}
}
