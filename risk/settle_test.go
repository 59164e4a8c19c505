package risk_test

import (
	"testing"

	"spigot/api"
)

// P17.3: a Settle of 0, of some, of just what is held; the slot holds nothing behind it, and may be reserved again, also for another account.
func TestSettle(t *testing.T) {
	for _, held := range []int{0, 1, 60, 100} {
		for _, worth := range []int{0, 1, 59, 60, 61, 99, 100} {
			x := newPair(t, 2, 100, 100)
			x.reserve(1, 0, held, api.OK)
			if worth > held {
				x.settle(0, worth, api.ErrArg)
				wantHeld(t, x.b, 0, 1, held, true)
				continue
			}
			x.settle(0, worth, api.OK)
			x.money(1, worth, worth)
			x.money(0, 0, 0)
			wantHeld(t, x.b, 0, 0, 0, false)
			x.settle(0, 0, api.ErrUnknown)
			x.resize(0, 0, api.ErrUnknown)
			x.reserve(0, 0, 100, api.OK)
			x.settle(0, 50, api.OK)
			x.reserve(1, 0, 101-worth, api.ErrLimit)
			x.reserve(1, 0, 100-worth, api.OK)
			x.settle(0, 100-worth, api.OK)
			x.money(1, 100, 100)
			x.money(0, 50, 50)
		}
	}
}

// P17.3: a Settle of one more than is held, of far more, below 0, of a slot that holds nothing, and of none.
func TestSettleRefuses(t *testing.T) {
	x := newPair(t, 3, 100, api.MaxLimit)
	for slot := range 3 {
		for _, worth := range []int{0, 1, 100, api.MaxLimit, api.MaxLimit + 1, greatestInt} {
			x.settle(slot, worth, api.ErrUnknown)
		}
		for _, worth := range []int{-1, -100, -1 << 32, leastInt + 1, leastInt} {
			x.settle(slot, worth, api.ErrArg)
		}
	}
	x.reserve(0, 0, 0, api.OK)
	x.reserve(0, 1, 60, api.OK)
	x.reserve(1, 2, api.MaxLimit, api.OK)
	for _, slot := range none(3) {
		x.settle(slot, 0, api.ErrArg)
		x.settle(slot, 1, api.ErrArg)
	}
	for _, worth := range []int{-1, -100, leastInt + 1, leastInt, api.MaxLimit + 1, greatestInt} {
		for slot := range 3 {
			x.settle(slot, worth, api.ErrArg)
		}
	}
	x.settle(0, 1, api.ErrArg)
	x.settle(1, 61, api.ErrArg)
	x.settle(1, 100, api.ErrArg)
	x.settle(0, 0, api.OK)
	x.settle(1, 60, api.OK)
	x.settle(2, api.MaxLimit, api.OK)
	x.money(0, 60, 60)
	x.money(1, api.MaxLimit, api.MaxLimit)
}

// P17.3: what a Settle may realise is what the slot holds at last, not at first.
func TestSettleResized(t *testing.T) {
	x := newPair(t, 2, 100)
	x.reserve(0, 0, 60, api.OK)
	x.resize(0, 20, api.OK)
	x.settle(0, 21, api.ErrArg)
	x.resize(0, 80, api.OK)
	x.settle(0, 81, api.ErrArg)
	x.settle(0, 80, api.OK)
	x.money(0, 80, 80)
}

// P17.3: an Undo of 0, of some, of just what was realised, of one more, below 0, and of no account.
func TestUndo(t *testing.T) {
	x := newPair(t, 2, 100, api.MaxLimit)
	x.undo(0, 0, api.OK)
	x.undo(0, 1, api.ErrArg)
	x.reserve(0, 0, 60, api.OK)
	x.undo(0, 1, api.ErrArg)
	x.settle(0, 30, api.OK)
	x.reserve(1, 0, api.MaxLimit, api.OK)
	x.settle(0, api.MaxLimit, api.OK)
	for account := range 2 {
		for _, worth := range []int{-1, -30, leastInt + 1, leastInt, api.MaxLimit + 1, greatestInt} {
			x.undo(account, worth, api.ErrArg)
		}
	}
	for _, account := range none(2) {
		x.undo(account, 0, api.ErrArg)
		x.undo(account, 1, api.ErrArg)
	}
	x.undo(0, 31, api.ErrArg)
	x.undo(0, 10, api.OK)
	x.money(0, 20, 20)
	x.undo(0, 21, api.ErrArg)
	x.undo(0, 0, api.OK)
	x.undo(0, 20, api.OK)
	x.money(0, 0, 0)
	x.undo(0, 1, api.ErrArg)
	x.undo(1, api.MaxLimit, api.OK)
	x.money(1, 0, 0)
	x.reserve(1, 0, api.MaxLimit, api.OK)
	x.undo(1, 1, api.ErrArg)
}

// P17.3: an Undo takes nothing of what is reserved, and what it gives back may be reserved again.
func TestUndoBesideHeld(t *testing.T) {
	x := newPair(t, 3, 100)
	x.reserve(0, 0, 50, api.OK)
	x.reserve(0, 1, 50, api.OK)
	x.settle(0, 50, api.OK)
	x.reserve(0, 0, 1, api.ErrLimit)
	x.undo(0, 51, api.ErrArg)
	x.undo(0, 30, api.OK)
	wantHeld(t, x.b, 1, 0, 50, true)
	x.reserve(0, 0, 31, api.ErrLimit)
	x.reserve(0, 2, 30, api.OK)
	x.money(0, 100, 20)
}
