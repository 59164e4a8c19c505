package slicer

import (
	"slices"

	"spigot/api"
	"spigot/berg"
	"spigot/flow"
	"spigot/pace"
)

// The algorithms, one type each: what of an order each of them alone has.
type (
	evenly  struct{}
	along   struct{ curve []int }
	partOf  struct{ rate int }
	iceberg struct{ show int }
)

// algorithm is the one of an order that is right. Its curve is its own, as whoever handed the order in may change theirs.
func algorithm(a api.Ask) any {
	switch a.Algo {
	case api.Vwap:
		return along{slices.Clone(a.Curve)}
	case api.Flow:
		return partOf{a.Rate}
	case api.Berg:
		return iceberg{a.Show}
	}
	return evenly{}
}

// without is an order without what its algorithm has.
func without(a api.Ask) api.Ask {
	a.Curve, a.Rate, a.Show = nil, 0, 0
	return a
}

// with is an order with what its algorithm has. It goes out, so that its curve is a new one.
func with(order api.Ask, algo any) api.Ask {
	switch x := algo.(type) {
	case along:
		order.Curve = slices.Clone(x.curve)
	case partOf:
		order.Rate = x.rate
	case iceberg:
		order.Show = x.show
	}
	return order
}

// out is how much of an order that has begun should be out, the market having traded so much since New.
func out(order api.Ask, algo any, now, traded, done int) (int, api.Errno) {
	// Flow's is the only one that goes by the market: all others go by the clock or by what is done.
	if x, ok := algo.(partOf); ok {
		return flow.Target(order.Qty, x.rate, traded)
	}
	switch x := algo.(type) {
	case along:
		return pace.Vwap(order.Qty, x.curve, order.Start, order.End, now)
	case iceberg:
		return berg.Target(order.Qty, x.show, done)
	default:
		// evenly: there is no other one.
		return pace.Twap(order.Qty, order.Start, order.End, now)
	}
}
