package rules

import (
	"spigot/api"
	"spigot/grain"
)

// looks is what is looked at of a setup: all of it must hold. The names come first: they bound the lists that the others go through.
func looks() []func(s api.Setup) bool {
	return []func(s api.Setup) bool{namesHold, accountsHold, symbolsHold, venuesHold, roomHolds}
}

func namesHold(s api.Setup) bool {
	return named(s.Accounts, api.MaxAccounts, accountName) &&
		named(s.Symbols, api.MaxSymbols, symbolName) &&
		named(s.Venues, api.MaxVenues, venueName)
}

func accountsHold(s api.Setup) bool {
	return all(s.Accounts, func(a api.Account) bool {
		return within(a.Limit, 0, api.MaxLimit)
	})
}

func symbolsHold(s api.Setup) bool {
	return all(s.Symbols, func(x api.Symbol) bool {
		return within(x.Lot, 1, api.MaxQty) &&
			within(x.Most, 1, api.MaxQty) &&
			within(x.Tick, 1, api.MaxPrice) &&
			within(x.Middle, 1, api.MaxPrice) &&
			within(x.Width, 0, api.MaxRate) &&
			within(x.Worth, 1, api.MaxLimit) &&
			banded(x)
	})
}

func venuesHold(s api.Setup) bool {
	return all(s.Venues, func(v api.Venue) bool {
		return within(v.Lot, 1, api.MaxQty) &&
			within(v.Fee, 0, api.MaxFee) &&
			within(v.Shown, 0, api.MaxQty)
	})
}

// roomHolds looks at how much of all there may be.
func roomHolds(s api.Setup) bool {
	return within(s.Parents, 1, api.MaxParents) &&
		within(s.Children, 1, api.MaxChildren) &&
		within(s.Execs, 1, api.MaxSeen) &&
		within(s.Window, 1, api.MaxSpan) &&
		within(s.Most, 1, api.MaxWindow) &&
		within(s.Repeat, 2, api.MaxWindow)
}

// banded says whether a symbol has a band, and no price of it is 0.
func banded(s api.Symbol) bool {
	low, _, e := band(s)
	return e == api.OK && low >= 1
}

// band is the prices that a symbol may have.
func band(s api.Symbol) (low, high int, e api.Errno) {
	return grain.Band(s.Middle, s.Width, s.Tick)
}

func all[T any](list []T, right func(T) bool) bool {
	for _, one := range list {
		if !right(one) {
			return false
		}
	}
	return true
}

func within(n, low, high int) bool {
	return low <= n && n <= high
}
