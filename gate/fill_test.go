package gate_test

import (
	"testing"

	"spigot/api"
)

// P16.2: the price is the limit or better.
func TestFillLimit(t *testing.T) {
	s := example()
	for _, limit := range []int{1, 2, 500, 990, 995, 1000, 1005, 1009} {
		wantFill(t, s, api.Buy, limit, limit, true)
		wantFill(t, s, api.Buy, limit, limit-1, limit > 1)
		wantFill(t, s, api.Buy, limit, limit+1, false)
		wantFill(t, s, api.Sell, limit, limit, true)
		wantFill(t, s, api.Sell, limit, limit+1, true)
		wantFill(t, s, api.Sell, limit, limit-1, false)
		wantFill(t, s, api.Buy, limit, 1, true)
		wantFill(t, s, api.Sell, limit, 1010, true)
	}
}

// P16.2: the price is from 1 on, whatever the limit.
func TestFillFromOne(t *testing.T) {
	for _, s := range []api.Symbol{example(), wide(), around(1), around(1 << 40)} {
		for _, price := range []int{0, -1, -5, -1000, -1 << 40, leastInt} {
			for _, limit := range []int{leastInt, price, 0, 1, 1000, 1 << 40, greatestInt} {
				wantFill(t, s, api.Buy, limit, price, false)
				wantFill(t, s, api.Sell, limit, price, false)
			}
		}
		wantFill(t, s, api.Buy, 1, 1, true)
		wantFill(t, s, api.Sell, 1, 1, true)
		wantFill(t, s, api.Buy, greatestInt, 1, true)
		for _, limit := range []int{0, -1, -1000, leastInt} {
			wantFill(t, s, api.Sell, limit, 1, true)
			wantFill(t, s, api.Buy, limit, 1, false)
		}
	}
}

// P16.2: the price is not above the band's upper end; below its lower end, and beside the tick, it may be.
func TestFillBand(t *testing.T) {
	for _, c := range []struct{ middle, width, tick, high int }{
		{1000, 100, 5, 1010}, {1000, 0, 5, 1000}, {1000, 333, 7, 1029}, {1000, 9999, 1, 1999}, {1, 0, 1, 1}, {1000, 9999, 1999, 1999},
		{1 << 40, 0, 1, 1 << 40}, {1 << 40, 9999, 1, 1 << 40}, {1 << 40, 1, 3, 1<<40 - 1},
	} {
		s := api.Symbol{Name: "X", Lot: 10, Tick: c.tick, Middle: c.middle, Width: c.width, Most: 1, Worth: 1}
		for _, limit := range []int{leastInt, 0, 1, c.high} {
			wantFill(t, s, api.Sell, limit, c.high, true)
		}
		for _, limit := range []int{c.high, c.high + 1, 1 << 41, greatestInt} {
			wantFill(t, s, api.Buy, limit, c.high, true)
			wantFill(t, s, api.Buy, limit, 1, true)
		}
		for _, above := range []int{c.high + 1, c.high + c.tick, 1 << 41, greatestInt} {
			for _, limit := range []int{1, c.high, above} {
				wantFill(t, s, api.Sell, limit, above, false)
			}
			for _, limit := range []int{above, greatestInt} {
				wantFill(t, s, api.Buy, limit, above, false)
			}
		}
	}
	for price := 1; price <= 1010; price++ {
		wantFill(t, example(), api.Buy, 1010, price, true)
		wantFill(t, example(), api.Sell, 1, price, true)
	}
}

// P16.2: of other sides no execution may be.
func TestFillSides(t *testing.T) {
	for _, side := range wrongSides() {
		for _, limit := range []int{leastInt, 0, 1, 999, 1000, 1001, greatestInt} {
			wantFill(t, example(), side, limit, 1000, false)
		}
	}
}
