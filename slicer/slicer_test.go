package slicer_test

import (
	"math/big"
	"reflect"
	"slices"
	"testing"

	"spigot/api"
	"spigot/slicer"
)

const (
	leastInt    = -1 << 63
	greatestInt = 1<<63 - 1
)

// The document's limits, in numbers.
const (
	mostQty   = 1 << 40
	mostPrice = 1 << 40
	mostTime  = 1 << 40
	longest   = 1 << 30
	mostRate  = 10000
	mostLimit = 1 << 62
)

// newOrder is an order of 100 from 20 to 60, with what its algorithm wants.
func newOrder(algo int) api.Ask {
	a := api.Ask{Kind: api.AskNew, ID: "p", Account: "A", Symbol: "X", Side: api.Sell, Qty: 100, Price: 9, Algo: algo, Start: 20, End: 60}
	switch algo {
	case api.Vwap:
		a.Curve = []int{1, 3}
	case api.Flow:
		a.Rate = 2500
	case api.Berg:
		a.Show = 30
	}
	return a
}

// orders are one of each algorithm.
func orders() []api.Ask {
	return []api.Ask{newOrder(api.Twap), newOrder(api.Vwap), newOrder(api.Flow), newOrder(api.Berg)}
}

// plain is a slicer as the chapters' words have it.
type plain struct {
	ask    api.Ask
	volume int
}

func isWithin(n, least, most int) bool { return n >= least && n <= most }

// share is qty · part / all, down, in numbers that have room for any product.
func share(qty, part, all int) int {
	n := new(big.Int).Mul(big.NewInt(int64(qty)), big.NewInt(int64(part)))
	n.Quo(n, big.NewInt(int64(all)))
	if n.Cmp(big.NewInt(int64(qty))) > 0 {
		return qty
	}
	return int(n.Int64())
}

// amend is what P27.2 says.
func (p *plain) amend(qty, price, end int) api.Errno {
	if !isWithin(qty, 1, mostQty) || !isWithin(price, 1, mostPrice) || !isWithin(end, 0, mostTime) {
		return api.ErrArg
	}
	if end <= p.ask.Start || end > p.ask.Start+longest {
		return api.ErrTime
	}
	p.ask.Qty, p.ask.Price, p.ask.End = qty, price, end
	return api.OK
}

// target is what P27.3 says.
func (p *plain) target(now, volume, done int) (int, api.Errno) {
	if !isWithin(now, 0, mostTime) || !isWithin(volume, p.volume, mostLimit) || !isWithin(done, 0, p.ask.Qty) {
		return 0, api.ErrArg
	}
	if now < p.ask.Start {
		return 0, api.OK
	}
	switch p.ask.Algo {
	case api.Twap:
		return p.paced(now, []int{1}), api.OK
	case api.Vwap:
		return p.paced(now, p.ask.Curve), api.OK
	case api.Flow:
		traded := new(big.Int).Mul(big.NewInt(int64(volume-p.volume)), big.NewInt(int64(p.ask.Rate)))
		traded.Quo(traded, big.NewInt(mostRate))
		return int(min(traded.Int64(), int64(p.ask.Qty))), api.OK
	case api.Berg:
		return min(done+p.ask.Show, p.ask.Qty), api.OK
	}
	panic("no algorithm")
}

// paced is what the layers 24 and 3 say of a curve; evenly is a curve of one weight. In ticks cut into as many pieces as there are buckets, bucket i is from i · span to (i + 1) · span.
func (p *plain) paced(now int, curve []int) int {
	span := p.ask.End - p.ask.Start
	gone := min(now-p.ask.Start, span)
	done, all := 0, 0
	for i, weight := range curve {
		done += weight * min(max(gone*len(curve)-i*span, 0), span)
		all += weight * span
	}
	return share(p.ask.Qty, done, all)
}

// goal is what P27.4 says.
func (p *plain) goal(now, volume, done, lot int) (int, api.Errno) {
	target, e := p.target(now, volume, done)
	if e != api.OK {
		return 0, e
	}
	if lot < 1 {
		return 0, api.ErrArg
	}
	whole, rest := target/lot, target%lot
	if rest == 0 {
		return target, api.OK
	}
	if whole+1 > p.ask.Qty/lot {
		return p.ask.Qty, api.OK
	}
	return (whole + 1) * lot, api.OK
}

// pair is a slicer and what it should be, which are handed the same.
type pair struct {
	t *testing.T
	s *slicer.Slicer
	p *plain
}

// newPair is of an order that New takes.
func newPair(t *testing.T, a api.Ask, volume int) *pair {
	t.Helper()
	s, e := slicer.New(a, volume)
	if s == nil || e != api.OK {
		t.Fatalf("New(%+v, %d): %v, %d", a, volume, s, e)
	}
	a.Curve = slices.Clone(a.Curve)
	x := &pair{t, s, &plain{a, volume}}
	x.look()
	return x
}

// sameAsk holds two asks against each other; of curves an empty one is as good as none.
func sameAsk(a, b api.Ask) bool {
	equal := slices.Equal(a.Curve, b.Curve)
	a.Curve, b.Curve = nil, nil
	return equal && reflect.DeepEqual(a, b)
}

// look asks for the order, and whether it is over about its end.
func (x *pair) look() {
	x.t.Helper()
	if a := x.s.Ask(); !sameAsk(a, x.p.ask) {
		x.t.Fatalf("Ask: %+v; the document asks for %+v", a, x.p.ask)
	}
	end := x.p.ask.End
	for _, now := range []int{leastInt, -1, 0, end - 1, end, end + 1, mostTime, greatestInt} {
		if over := x.s.Over(now); over != (now >= end) {
			x.t.Fatalf("Over(%d): %t, of an order that ends at %d", now, over, end)
		}
	}
}

// amend amends both, whether that may be or not, and looks at what is behind it.
func (x *pair) amend(qty, price, end int) api.Errno {
	x.t.Helper()
	want := x.p.amend(qty, price, end)
	if e := x.s.Amend(qty, price, end); e != want {
		x.t.Fatalf("Amend(%d, %d, %d): %d; the document asks for %d, of %+v", qty, price, end, e, want, x.p.ask)
	}
	x.look()
	return want
}

// wantAmend amends both, and asks for an error beside.
func (x *pair) wantAmend(qty, price, end int, want api.Errno) {
	x.t.Helper()
	if e := x.amend(qty, price, end); e != want {
		x.t.Fatalf("Amend(%d, %d, %d): %d, not %d, of %+v", qty, price, end, e, want, x.p.ask)
	}
}

// target asks both for one, and for goals of it.
func (x *pair) target(now, volume, done int) (int, api.Errno) {
	x.t.Helper()
	want, e := x.p.target(now, volume, done)
	x.wantTarget(now, volume, done, want, e)
	for _, lot := range []int{leastInt, 0, 1, 7, greatestInt} {
		x.goal(now, volume, done, lot)
	}
	return want, e
}

func (x *pair) wantTarget(now, volume, done, want int, e api.Errno) {
	x.t.Helper()
	n, got := x.s.Target(now, volume, done)
	if n != want || got != e {
		x.t.Fatalf("Target(%d, %d, %d): %d, %d; the document asks for %d, %d, of %+v made at %d", now, volume, done, n, got, want, e, x.p.ask, x.p.volume)
	}
	if n < 0 || n > x.p.ask.Qty {
		x.t.Fatalf("Target(%d, %d, %d): %d, of %+v", now, volume, done, n, x.p.ask)
	}
}

// wantNoTarget looks that neither a target nor a goal is told, whatever the lot is.
func (x *pair) wantNoTarget(now, volume, done int) {
	x.t.Helper()
	x.wantTarget(now, volume, done, 0, api.ErrArg)
	for _, lot := range []int{leastInt, -1, 0, 1, 7, 100, greatestInt} {
		x.wantGoal(now, volume, done, lot, 0, api.ErrArg)
	}
}

// goal asks both for one.
func (x *pair) goal(now, volume, done, lot int) (int, api.Errno) {
	x.t.Helper()
	want, e := x.p.goal(now, volume, done, lot)
	x.wantGoal(now, volume, done, lot, want, e)
	return want, e
}

func (x *pair) wantGoal(now, volume, done, lot, want int, e api.Errno) {
	x.t.Helper()
	if n, got := x.s.Goal(now, volume, done, lot); n != want || got != e {
		x.t.Fatalf("Goal(%d, %d, %d, %d): %d, %d; the document asks for %d, %d, of %+v made at %d", now, volume, done, lot, n, got, want, e, x.p.ask, x.p.volume)
	}
}

// outside is what is below least or above most, near to it and far off.
func outside(least, most int) []int {
	list := []int{leastInt, leastInt + 1, -1 << 62, -most, least - 1, most + 1, most + 2, greatestInt - 1, greatestInt}
	return slices.DeleteFunc(list, func(n int) bool { return isWithin(n, least, most) })
}

// The chapter's examples.
func TestExamples(t *testing.T) {
	a := newOrder(api.Flow)
	newPair(t, a, 10).wantTarget(a.Start, 110, 0, 25, api.OK)
	a = newOrder(api.Berg)
	newPair(t, a, 0).wantTarget(a.Start, 0, 50, 80, api.OK)
}

// The first sentence behind 'Functions': of a slicer that is nil, or that New did not make, whatever the arguments are.
func TestNotMade(t *testing.T) {
	var none *slicer.Slicer
	var bare slicer.Slicer
	for name, s := range map[string]*slicer.Slicer{"nil": none, "new": new(slicer.Slicer), "{}": {}, "var": &bare} {
		for range 2 {
			if a := s.Ask(); !sameAsk(a, api.Ask{}) {
				t.Errorf("%s: Ask: %+v", name, a)
			}
			for _, n := range []int{leastInt, -1, 0, 1, 30, 60, 100, mostTime, mostTime + 1, mostLimit, greatestInt} {
				if s.Over(n) {
					t.Errorf("%s: Over(%d)", name, n)
				}
				for _, m := range []int{leastInt, -1, 0, 1, 50, mostQty + 1, greatestInt} {
					if e := s.Amend(m, 9, n); e != api.ErrNil {
						t.Errorf("%s: Amend(%d, 9, %d): %d", name, m, n, e)
					}
					if e := s.Amend(9, m, n); e != api.ErrNil {
						t.Errorf("%s: Amend(9, %d, %d): %d", name, m, n, e)
					}
					if n, e := s.Target(n, m, 0); n != 0 || e != api.ErrNil {
						t.Errorf("%s: Target: %d, %d", name, n, e)
					}
					if n, e := s.Target(30, n, m); n != 0 || e != api.ErrNil {
						t.Errorf("%s: Target: %d, %d", name, n, e)
					}
					if n, e := s.Goal(n, m, 0, 10); n != 0 || e != api.ErrNil {
						t.Errorf("%s: Goal: %d, %d", name, n, e)
					}
					if n, e := s.Goal(30, 0, n, m); n != 0 || e != api.ErrNil {
						t.Errorf("%s: Goal: %d, %d", name, n, e)
					}
				}
			}
		}
	}
}

// P27.1 to P27.4: what is done with one slicer doesn't touch another one, though both were made of one order.
func TestBesideEachOther(t *testing.T) {
	for _, a := range orders() {
		one, other := newPair(t, a, 5), newPair(t, a, 50)
		third := newPair(t, orders()[a.Algo%4], 0)
		for i := range 60 {
			one.amend(10+i, 1+i, 30+i)
			other.amend(200-i, 7, 90-i%50)
			third.amend(1, 1, 21)
			for _, x := range []*pair{one, other, third} {
				x.look()
				x.target(20+i, 50+3*i, i%10)
				x.target(20+i, 49, 0)
			}
		}
		third.look()
	}
}
