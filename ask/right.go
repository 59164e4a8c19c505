package ask

import (
	"spigot/api"
	"spigot/curve"
	"spigot/roster"
)

// rightOrder says whether what all algorithms of a new order want is right.
func rightOrder(a api.Ask) bool {
	return roster.Valid(a.Account) && roster.Valid(a.Symbol) &&
		within(a.Side, api.Buy, api.Sell) && rightChange(a) &&
		within(a.Start, 0, api.MaxTime) && rightSpan(a)
}

// rightAlgo says whether it is an algorithm, and just what that one wants is set.
func rightAlgo(a api.Ask) bool {
	switch a.Algo {
	case api.Twap:
		return len(a.Curve) == 0 && a.Rate == 0 && a.Show == 0
	case api.Vwap:
		return curve.Check(a.Curve) == api.OK && a.Rate == 0 && a.Show == 0
	case api.Flow:
		return len(a.Curve) == 0 && within(a.Rate, 1, api.MaxRate) && a.Show == 0
	case api.Berg:
		return len(a.Curve) == 0 && a.Rate == 0 && within(a.Show, 1, api.MaxQty)
	}
	return false
}

// rightChange says whether what can be amended is right, each by itself.
func rightChange(a api.Ask) bool {
	return within(a.Qty, 1, api.MaxQty) && within(a.Price, 1, api.MaxPrice) && within(a.End, 0, api.MaxTime)
}

// rightSpan says whether the end is above the start, and not too far. Both must be from 0 to MaxTime, so that the difference has room.
func rightSpan(a api.Ask) bool {
	return within(a.End-a.Start, 1, api.MaxSpan)
}

// noOrder says whether nothing is set that new orders alone have.
func noOrder(a api.Ask) bool {
	return a.Account == "" && a.Symbol == "" && a.Side == 0 && a.Algo == 0 && a.Start == 0 &&
		len(a.Curve) == 0 && a.Rate == 0 && a.Show == 0
}

// noChange says whether nothing is set that can be amended.
func noChange(a api.Ask) bool {
	return a.Qty == 0 && a.Price == 0 && a.End == 0
}

func within(n, low, high int) bool {
	return n >= low && n <= high
}
