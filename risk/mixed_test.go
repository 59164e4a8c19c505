package risk_test

import (
	"math/rand/v2"
	"testing"

	"spigot/api"
)

// others is all that is told of the accounts but one: what they use, what was realised, and what is left.
func (x *pair) others(but int) [][3]int {
	var list [][3]int
	for account := range x.p.limits {
		if account != but {
			list = append(list, [3]int{x.b.Used(account), x.b.Realised(account), x.b.Left(account)})
		}
	}
	return list
}

// touched is the account that a step is about: Reserve and Undo name it, the others take what the slot holds of; -1, if there is none.
func (x *pair) touched(step, account, slot int) int {
	if step == 0 || step == 3 {
		return account
	}
	if a, _, ok := x.b.Held(slot); ok {
		return a
	}
	return -1
}

// step makes one step with both books, and tells what came of it.
func (x *pair) step(step, account, slot, amount int) api.Errno {
	var e api.Errno
	switch step {
	case 0:
		e = x.p.reserve(account, slot, amount)
		x.told("Reserve", x.b.Reserve(account, slot, amount), e, e)
	case 1:
		e = x.p.resize(slot, amount)
		x.told("Resize", x.b.Resize(slot, amount), e, e)
	case 2:
		e = x.p.settle(slot, amount)
		x.told("Settle", x.b.Settle(slot, amount), e, e)
	case 3:
		e = x.p.undo(account, amount)
		x.told("Undo", x.b.Undo(account, amount), e, e)
	}
	return e
}

// someAmount is a number about where something happens: at a limit, at what is left, held or realised, at the ends, or anywhere.
func (x *pair) someAmount(r *rand.Rand, account, slot int) int {
	_, held, _ := x.b.Held(slot)
	limit := 1000
	if x.p.isAccount(account) {
		limit = x.p.limits[account]
	}
	at := []int{0, limit, x.b.Left(account), held, x.b.Realised(account), held + x.b.Left(account), api.MaxLimit, r.IntN(limit + 1), r.IntN(limit/4 + 1), r.IntN(held + 1), r.IntN(held + 1)}
	n := at[r.IntN(len(at))]
	switch r.IntN(20) {
	case 0:
		return n + 1
	case 1:
		return n - 1
	case 2:
		return -n
	case 3:
		return []int{leastInt, -1, api.MaxLimit + 1, greatestInt}[r.IntN(4)]
	}
	return n
}

// P17.2 to P17.5: long runs in a mixed order over several accounts and slots, held against a plain count; no step changes anything of another account.
func TestMixed(t *testing.T) {
	sizes := []struct {
		slots  int
		limits []int
	}{
		{1, []int{100}}, {2, []int{100, 50}}, {5, []int{0, 1, 7}}, {8, []int{api.MaxLimit, api.MaxLimit, 1000}}, {api.MaxParents, many(api.MaxAccounts, 500)},
	}
	for seed, size := range sizes {
		r := rand.New(rand.NewPCG(17, uint64(seed)))
		x := newPair(t, size.slots, size.limits...)
		met := map[[2]int]int{}
		for range 6000 {
			step, account, slot := r.IntN(4), r.IntN(len(size.limits)), r.IntN(size.slots)
			if r.IntN(30) == 0 {
				account = none(len(size.limits))[r.IntN(14)]
			}
			if r.IntN(30) == 0 {
				slot = none(size.slots)[r.IntN(14)]
			}
			amount := x.someAmount(r, account, slot)
			about := x.touched(step, account, slot)
			ahead := x.others(about)
			met[[2]int{step, int(x.step(step, account, slot, amount))}]++
			for i, now := range x.others(about) {
				if now != ahead[i] {
					t.Fatalf("a step of the account %d has changed another one: %v; it was %v", about, now, ahead[i])
				}
			}
		}
		wantMet(t, met)
	}
}

// wantMet looks that a run has met each answer of each call often enough to tell something.
func wantMet(t *testing.T, met map[[2]int]int) {
	t.Helper()
	for step, answers := range [][]api.Errno{
		{api.OK, api.ErrArg, api.ErrTwice, api.ErrLimit}, {api.OK, api.ErrArg, api.ErrUnknown, api.ErrLimit}, {api.OK, api.ErrArg, api.ErrUnknown}, {api.OK, api.ErrArg},
	} {
		for _, e := range answers {
			if n := met[[2]int{step, int(e)}]; n < 5 {
				t.Errorf("the step %d was answered %d only %d times: the run is too tame", step, e, n)
			}
		}
	}
}

// P17.5: every row of a few steps of a small book, with two accounts and two slots.
func TestAllRows(t *testing.T) {
	type act struct{ step, account, slot, amount int }
	var acts []act
	for _, amount := range []int{0, 2, 3} {
		acts = append(acts, act{0, 0, 0, amount}, act{0, 1, 0, amount}, act{0, 0, 1, amount}, act{1, 0, 0, amount}, act{1, 0, 1, amount}, act{2, 0, 0, amount}, act{2, 0, 1, amount})
	}
	acts = append(acts, act{3, 0, 0, 1}, act{3, 0, 0, 2}, act{3, 1, 0, 2})
	for row := range len(acts) * len(acts) * len(acts) {
		x := newPair(t, 2, 4, 3)
		x.step(0, 0, 0, 2)
		for range 3 {
			a := acts[row%len(acts)]
			x.step(a.step, a.account, a.slot, a.amount)
			row /= len(acts)
		}
	}
}
