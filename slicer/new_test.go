package slicer_test

import (
	"slices"
	"strings"
	"testing"

	"spigot/api"
	"spigot/slicer"
)

// wantNone looks that New doesn't take an order, and that no slicer is told beside the error.
func wantNone(t *testing.T, a api.Ask, volume int) {
	t.Helper()
	if s, e := slicer.New(a, volume); s != nil || e != api.ErrArg {
		t.Errorf("New(%+v, %d): %v, %d", a, volume, s, e)
	}
}

// change is a field of an order with a value of its own.
type change struct {
	name string
	to   func(a *api.Ask)
}

// names are changes of a field that should be a name: to what is none.
func names(name string, field func(a *api.Ask) *string) []change {
	var list []change
	for _, s := range []string{"", " ", "a b", "a=b", "a\x01", "\x7f", "\xff", "a\xc3", strings.Repeat("a", 21), strings.Repeat("ü", 21)} {
		list = append(list, change{name, func(a *api.Ask) { *field(a) = s }})
	}
	return list
}

// numbers are changes of a field that is a number, to each one that is handed in.
func numbers(name string, field func(a *api.Ask) *int, to ...int) []change {
	var list []change
	for _, n := range to {
		list = append(list, change{name, func(a *api.Ask) { *field(a) = n }})
	}
	return list
}

// curves are changes of the curve.
func curves(to ...[]int) []change {
	var list []change
	for _, w := range to {
		list = append(list, change{"Curve", func(a *api.Ask) { a.Curve = w }})
	}
	return list
}

// wrongs are changes of an order of 100 from 20 to 60, each of which alone makes it wrong, whatever its algorithm is.
func wrongs() []change {
	return slices.Concat(
		names("ID", func(a *api.Ask) *string { return &a.ID }),
		names("Account", func(a *api.Ask) *string { return &a.Account }),
		names("Symbol", func(a *api.Ask) *string { return &a.Symbol }),
		[]change{{"Target", func(a *api.Ask) { a.Target = "p" }}, {"Target", func(a *api.Ask) { a.Target = " " }}},
		numbers("Kind", func(a *api.Ask) *int { return &a.Kind }, leastInt, -1, 0, 2, 3, 4, 5, 6, 1<<32+1, greatestInt),
		numbers("Side", func(a *api.Ask) *int { return &a.Side }, leastInt, -1, 0, 3, 1<<32+1, greatestInt),
		numbers("Qty", func(a *api.Ask) *int { return &a.Qty }, leastInt, -100, -1, 0, mostQty+1, greatestInt),
		numbers("Price", func(a *api.Ask) *int { return &a.Price }, leastInt, -9, -1, 0, mostPrice+1, greatestInt),
		numbers("Algo", func(a *api.Ask) *int { return &a.Algo }, leastInt, -1, 0, 5, 1<<32+1, greatestInt),
		numbers("Start", func(a *api.Ask) *int { return &a.Start }, leastInt, -1, 60, 61, mostTime, mostTime+1, greatestInt),
		numbers("End", func(a *api.Ask) *int { return &a.End }, leastInt, -1, 0, 19, 20, 20+longest+1, mostTime, mostTime+1, greatestInt),
	)
}

// wrongsOf are changes that make an order wrong for its algorithm.
func wrongsOf(algo int) []change {
	rate := func(a *api.Ask) *int { return &a.Rate }
	show := func(a *api.Ask) *int { return &a.Show }
	rates := numbers("Rate", rate, leastInt, -1, 1, 2500, mostRate, mostRate+1, greatestInt)
	shows := numbers("Show", show, leastInt, -1, 1, 30, mostQty, mostQty+1, greatestInt)
	weights := curves([]int{1}, []int{1, 3}, []int{0}, []int{-1}, slices.Repeat([]int{1}, 65))
	switch algo {
	case api.Vwap:
		weights = curves(nil, []int{}, []int{0}, []int{0, 0}, []int{-1}, []int{1, -1}, []int{1, 1<<20 + 1}, []int{leastInt, 1}, []int{greatestInt, 1}, slices.Repeat([]int{1}, 65), slices.Repeat([]int{0}, 64))
	case api.Flow:
		rates = numbers("Rate", rate, leastInt, -2500, -1, 0, mostRate+1, greatestInt)
	case api.Berg:
		shows = numbers("Show", show, leastInt, -30, -1, 0, mostQty+1, greatestInt)
	}
	all := slices.Concat(weights, rates, shows)
	for other := api.Twap; other <= api.Berg; other++ {
		if other != algo {
			all = append(all, change{"Algo", func(a *api.Ask) { a.Algo = other }})
		}
	}
	return all
}

// P27.1: a right order of each algorithm, of either side.
func TestNew(t *testing.T) {
	for _, a := range orders() {
		for _, side := range []int{api.Buy, api.Sell} {
			a.Side = side
			x := newPair(t, a, 0)
			x.target(0, 0, 0)
			x.target(30, 40, 50)
		}
	}
}

// P27.1: the ends of each field, and all of them at once.
func TestNewOfFieldsAtTheirEnds(t *testing.T) {
	long := strings.Repeat("😀", 20)
	for _, a := range orders() {
		for _, c := range slices.Concat(
			[]change{{"ID", func(a *api.Ask) { a.ID = long }}, {"Account", func(a *api.Ask) { a.Account = long }}, {"Symbol", func(a *api.Ask) { a.Symbol = long }}},
			numbers("Qty", func(a *api.Ask) *int { return &a.Qty }, 1, 2, mostQty-1, mostQty),
			numbers("Price", func(a *api.Ask) *int { return &a.Price }, 1, mostPrice),
			numbers("Start", func(a *api.Ask) *int { return &a.Start }, 0, 1, 58, 59),
			numbers("End", func(a *api.Ask) *int { return &a.End }, 21, 22, 20+longest-1, 20+longest),
		) {
			b := a
			c.to(&b)
			newPair(t, b, 3).target(b.End-1, 3, 1)
		}
		a.ID, a.Account, a.Symbol = long, long, long
		a.Qty, a.Price = mostQty, mostPrice
		for _, ends := range [][2]int{{0, 1}, {0, longest}, {mostTime - longest, mostTime}, {mostTime - 1, mostTime}} {
			a.Start, a.End = ends[0], ends[1]
			newPair(t, a, 3).target(a.End-1, 3, 1)
		}
	}
	for _, rate := range []int{1, 2, mostRate - 1, mostRate} {
		a := newOrder(api.Flow)
		a.Rate = rate
		newPair(t, a, 3).target(30, 1000, 1)
	}
	for _, show := range []int{1, 2, 99, 100, 101, mostQty - 1, mostQty} {
		a := newOrder(api.Berg)
		a.Show = show
		newPair(t, a, 3).target(30, 1000, 1)
	}
	for _, w := range [][]int{{1}, {1 << 20}, {0, 1}, {1, 0}, slices.Repeat([]int{1 << 20}, 64), append(make([]int, 63), 1)} {
		a := newOrder(api.Vwap)
		a.Curve = w
		newPair(t, a, 3).target(30, 1000, 1)
	}
}

// P27.1: asks that are right, but no new orders.
func TestNewOfOtherAsks(t *testing.T) {
	for _, a := range []api.Ask{
		{},
		{Kind: api.AskCancel, ID: "b", Target: "a"},
		{Kind: api.AskAmend, ID: "b", Target: "a", Qty: 7, Price: 8, End: 9},
		{Kind: api.AskPause, ID: "b", Target: "a"},
		{Kind: api.AskResume, ID: "b", Target: "a"},
		{Kind: api.AskNew, ID: "b", Target: "a"},
		{Kind: api.AskNew},
		{Kind: 6, ID: "b", Target: "a"},
	} {
		for _, volume := range []int{-1, 0, 10, mostLimit} {
			wantNone(t, a, volume)
		}
	}
}

// P27.1: each field wrong on its own, for each algorithm.
func TestNewOfWrongOrders(t *testing.T) {
	for _, a := range orders() {
		for _, c := range append(wrongs(), wrongsOf(a.Algo)...) {
			b := a
			c.to(&b)
			for _, volume := range []int{0, 10, mostLimit} {
				if s, e := slicer.New(b, volume); s != nil || e != api.ErrArg {
					t.Errorf("New(%+v, %d), of a wrong %s: %v, %d", b, volume, c.name, s, e)
				}
			}
			// Several things wrong at once.
			b.Qty = 0
			wantNone(t, b, 10)
			wantNone(t, b, -1)
		}
	}
}

// P27.1: volumes that may be, and ones that may not.
func TestNewVolumes(t *testing.T) {
	for _, a := range orders() {
		for _, volume := range []int{0, 1, 2, 10, 1 << 40, mostLimit - 1, mostLimit} {
			x := newPair(t, a, volume)
			x.target(40, volume, 0)
			x.target(40, mostLimit, 0)
		}
		for _, volume := range append(outside(0, mostLimit), -2, -10) {
			wantNone(t, a, volume)
		}
	}
}

// P27.1 and P27.2: a list that was handed in is neither changed nor kept, nor is what lies behind it.
func TestCurveHandedIn(t *testing.T) {
	for _, n := range []int{1, 2, 3, 10, 64} {
		room := make([]int, n+5)
		for i := range room {
			room[i] = i*7%11 + 1
		}
		before := slices.Clone(room)
		a := newOrder(api.Vwap)
		a.Curve = room[:n]
		x := newPair(t, a, 0)
		for now := range 70 {
			x.target(now, 0, 0)
		}
		x.amend(70, 8, 90)
		if !slices.Equal(room, before) {
			t.Fatalf("the list that was handed in is %v; it was %v", room, before)
		}
		for i := range room {
			room[i] = 1000 * i
		}
		x.look()
		for now := range 100 {
			x.target(now, 0, 0)
		}
	}
}

// P27.2: a list that Ask told is a new one each time.
func TestCurveToldByAsk(t *testing.T) {
	x := newPair(t, newOrder(api.Vwap), 0)
	for i := range 5 {
		told, again := x.s.Ask().Curve, x.s.Ask().Curve
		told[0], told[1] = 77, -3
		whole := told[:cap(told)]
		for j := range whole {
			whole[j] = -5
		}
		if !slices.Equal(again, []int{1, 3}) {
			t.Fatalf("what Ask told before is now %v", again)
		}
		x.look()
		for now := range 100 {
			x.target(now, 0, 0)
		}
		x.amend(100+i, 9, 70+i)
	}
}

// P27.1 and P27.2: an algorithm without a curve doesn't keep a list either, though it may be handed an empty one that has room.
func TestEmptyCurves(t *testing.T) {
	for _, algo := range []int{api.Twap, api.Flow, api.Berg} {
		room := []int{1, 2, 3, 4}
		a := newOrder(algo)
		a.Curve = room[:0]
		x := newPair(t, a, 0)
		x.target(30, 0, 0)
		told := x.s.Ask().Curve
		if len(told) != 0 {
			t.Fatalf("Ask has the curve %v", told)
		}
		for i := range told[:cap(told)] {
			told[:cap(told)][i] = 9
		}
		if !slices.Equal(room, []int{1, 2, 3, 4}) {
			t.Fatalf("the list that was handed in is %v", room)
		}
		x.look()
	}
}
