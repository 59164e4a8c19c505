package risk_test

import (
	"testing"

	"spigot/api"
)

// wrongAmounts is what is no amount.
func wrongAmounts() []int {
	return []int{leastInt, leastInt + 1, -api.MaxLimit, -1 << 32, -1, api.MaxLimit + 1, greatestInt - 1, greatestInt}
}

// P17.2: Reserve of accounts, slots and amounts, at their edges and beyond them.
func TestReserveEdges(t *testing.T) {
	x := newPair(t, 4, api.MaxLimit, 5, api.MaxLimit)
	for _, account := range none(3) {
		x.reserve(account, 0, 1, api.ErrArg)
		x.reserve(account, 3, 0, api.ErrArg)
	}
	for _, slot := range none(4) {
		x.reserve(0, slot, 1, api.ErrArg)
		x.reserve(2, slot, 0, api.ErrArg)
	}
	for _, amount := range wrongAmounts() {
		x.reserve(0, 0, amount, api.ErrArg)
		x.reserve(1, 3, amount, api.ErrArg)
	}
	x.reserve(2, 3, api.MaxLimit, api.OK)
	x.reserve(0, 0, 0, api.OK)
	x.reserve(1, 1, 5, api.OK)
	x.reserve(0, 2, api.MaxLimit-1, api.OK)
	wantHeld(t, x.b, 0, 0, 0, true)
	wantHeld(t, x.b, 1, 1, 5, true)
	wantHeld(t, x.b, 2, 0, api.MaxLimit-1, true)
	wantHeld(t, x.b, 3, 2, api.MaxLimit, true)
}

// P17.2: every account and every slot of the greatest book.
func TestReserveAll(t *testing.T) {
	x := newPair(t, api.MaxParents, many(api.MaxAccounts, 1000)...)
	for slot := range api.MaxParents {
		x.reserve(slot%api.MaxAccounts, slot, slot+1, api.OK)
	}
	for slot := range api.MaxParents {
		wantHeld(t, x.b, slot, slot%api.MaxAccounts, slot+1, true)
	}
	for account := range api.MaxAccounts {
		x.money(account, 4*(account+1)+16+32+48, 0)
	}
}

// P17.2: a slot that holds a reservation, also one of 0, takes no other one, of whatever account.
func TestReserveTwice(t *testing.T) {
	for _, first := range []int{0, 1, 60, 100} {
		for _, account := range []int{0, 1} {
			x := newPair(t, 2, 100, 100)
			x.reserve(account, 1, first, api.OK)
			for _, amount := range []int{0, 1, first, 100, 101, api.MaxLimit} {
				x.reserve(0, 1, amount, api.ErrTwice)
				x.reserve(1, 1, amount, api.ErrTwice)
			}
			wantHeld(t, x.b, 1, account, first, true)
			wantHeld(t, x.b, 0, 0, 0, false)
		}
	}
}

// P17.2: a reservation that makes the account use just its limit, and one more: by one slot, by several, and by what was realised.
func TestReserveLimit(t *testing.T) {
	for _, limit := range []int{0, 1, 2, 100, 1 << 32, api.MaxLimit - 1, api.MaxLimit} {
		x := newPair(t, 3, limit)
		if limit < api.MaxLimit {
			x.reserve(0, 0, limit+1, api.ErrLimit)
			x.reserve(0, 0, api.MaxLimit, api.ErrLimit)
		}
		x.reserve(0, 0, limit, api.OK)
		x.reserve(0, 1, 1, api.ErrLimit)
		x.reserve(0, 1, api.MaxLimit, api.ErrLimit)
		x.reserve(0, 1, 0, api.OK)
		x.settle(0, limit, api.OK)
		x.money(0, limit, limit)
		x.reserve(0, 2, 1, api.ErrLimit)
		x.reserve(0, 2, api.MaxLimit, api.ErrLimit)
		x.reserve(0, 2, 0, api.OK)
	}
	x := newPair(t, 4, 100)
	x.reserve(0, 0, 30, api.OK)
	x.settle(0, 20, api.OK)
	x.reserve(0, 1, 30, api.OK)
	x.reserve(0, 2, 51, api.ErrLimit)
	x.reserve(0, 2, 50, api.OK)
	x.reserve(0, 3, 1, api.ErrLimit)
}

// P17.2: Reserve's errors at once: what an argument may not be, then that the slot holds, then the limit.
func TestReserveFirstError(t *testing.T) {
	x := newPair(t, 2, 100)
	x.reserve(0, 0, 100, api.OK)
	for _, amount := range wrongAmounts() {
		x.reserve(0, 0, amount, api.ErrArg)
		x.reserve(0, 1, amount, api.ErrArg)
	}
	x.reserve(1, 0, 1, api.ErrArg)
	x.reserve(-1, 0, 1, api.ErrArg)
	x.reserve(0, 0, 1, api.ErrTwice)
	x.reserve(0, 0, 101, api.ErrTwice)
	x.reserve(0, 1, 1, api.ErrLimit)
	x.reserve(0, 2, 1, api.ErrArg)
	x.reserve(0, -1, 101, api.ErrArg)
}

// P17.2: Resize of slots and amounts, at their edges and beyond them; a slot that holds nothing.
func TestResizeEdges(t *testing.T) {
	x := newPair(t, 3, 100, api.MaxLimit)
	for slot := range 3 {
		for _, amount := range []int{0, 1, 100, 101, api.MaxLimit} {
			x.resize(slot, amount, api.ErrUnknown)
		}
		for _, amount := range wrongAmounts() {
			x.resize(slot, amount, api.ErrArg)
		}
	}
	x.reserve(1, 0, 5, api.OK)
	x.reserve(0, 2, 0, api.OK)
	for _, slot := range none(3) {
		x.resize(slot, 0, api.ErrArg)
		x.resize(slot, 5, api.ErrArg)
	}
	for _, amount := range wrongAmounts() {
		x.resize(0, amount, api.ErrArg)
		x.resize(2, amount, api.ErrArg)
	}
	x.resize(0, api.MaxLimit, api.OK)
	x.resize(2, 100, api.OK)
	x.resize(1, 0, api.ErrUnknown)
	wantHeld(t, x.b, 0, 1, api.MaxLimit, true)
	wantHeld(t, x.b, 2, 0, 100, true)
}

// P17.2: a Resize up and down, to the same amount, to 0 and from there; one of 0 is held still.
func TestResize(t *testing.T) {
	x := newPair(t, 2, 100, 100)
	x.reserve(1, 1, 40, api.OK)
	for _, amount := range []int{41, 100, 100, 99, 40, 1, 0, 0, 1, 0, 100, 0} {
		x.resize(1, amount, api.OK)
		x.money(1, amount, 0)
		x.money(0, 0, 0)
		wantHeld(t, x.b, 1, 1, amount, true)
	}
	x.reserve(0, 1, 1, api.ErrTwice)
}

// P17.2: a Resize to just the limit and to one more, beside what other slots hold and what was realised.
func TestResizeLimit(t *testing.T) {
	for _, limit := range []int{0, 1, 100, 1 << 32, api.MaxLimit - 1, api.MaxLimit} {
		x := newPair(t, 2, limit)
		x.reserve(0, 0, limit/2, api.OK)
		if limit < api.MaxLimit {
			x.resize(0, limit+1, api.ErrLimit)
			x.resize(0, api.MaxLimit, api.ErrLimit)
		}
		x.resize(0, limit, api.OK)
		x.resize(0, limit, api.OK)
		x.reserve(0, 1, 0, api.OK)
		x.resize(1, 1, api.ErrLimit)
		x.resize(1, api.MaxLimit, api.ErrLimit)
		x.resize(1, 0, api.OK)
	}
	x := newPair(t, 3, 100)
	x.reserve(0, 0, 30, api.OK)
	x.settle(0, 20, api.OK)
	x.reserve(0, 1, 30, api.OK)
	x.reserve(0, 0, 50, api.OK)
	x.resize(1, 31, api.ErrLimit)
	x.resize(0, 51, api.ErrLimit)
	x.resize(1, 29, api.OK)
	x.resize(0, 51, api.OK)
	x.resize(0, 52, api.ErrLimit)
	x.resize(1, 30, api.ErrLimit)
}

// P17.2: a slot that holds all of its account's limit leaves no room for another one, and lets it go as it is made smaller.
func TestResizeMakesRoom(t *testing.T) {
	x := newPair(t, 2, api.MaxLimit)
	x.reserve(0, 0, api.MaxLimit, api.OK)
	x.reserve(0, 1, 1, api.ErrLimit)
	x.resize(0, api.MaxLimit-1, api.OK)
	x.reserve(0, 1, 2, api.ErrLimit)
	x.reserve(0, 1, 1, api.OK)
	x.resize(0, api.MaxLimit, api.ErrLimit)
	x.resize(0, 0, api.OK)
	x.resize(1, api.MaxLimit, api.OK)
	x.resize(0, 1, api.ErrLimit)
}

// P17.4: Held of a slot that holds nothing, of one that holds 0, also of the first account, and of none; Left and Used beside it.
func TestHeld(t *testing.T) {
	x := newPair(t, 3, 0, 7)
	x.reserve(0, 1, 0, api.OK)
	x.reserve(1, 2, 0, api.OK)
	wantHeld(t, x.b, 0, 0, 0, false)
	wantHeld(t, x.b, 1, 0, 0, true)
	wantHeld(t, x.b, 2, 1, 0, true)
	wantHeld(t, x.b, 3, 0, 0, false)
	wantHeld(t, x.b, -1, 0, 0, false)
	x.settle(1, 0, api.OK)
	wantHeld(t, x.b, 1, 0, 0, false)
	x.reserve(1, 1, 3, api.OK)
	if n := x.b.Left(1); n != 4 {
		t.Fatalf("Left: %d", n)
	}
	if n := x.b.Left(0); n != 0 {
		t.Fatalf("Left: %d", n)
	}
}
