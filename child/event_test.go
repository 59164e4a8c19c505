package child_test

import (
	"fmt"
	"slices"
	"testing"

	"spigot/api"
)

// way is how a child of 10 at 99 comes to a state, and how it stands then.
type way struct {
	calls                   []call
	state, qty, price       int
	nextQty, nextPrice, cum int
	claim, cover            int
}

// ways lead to every state that a child can come to, with nothing, a part and all of it executed, as far as the state has them.
func ways() []way {
	return []way{
		{nil, api.SPending, 10, 99, 0, 0, 0, 10, 99},

		{[]call{ack}, api.SNew, 10, 99, 0, 0, 0, 10, 99},
		{[]call{trade(4), bust(4)}, api.SNew, 6, 99, 0, 0, 0, 6, 99},
		{[]call{cancel, refused}, api.SNew, 10, 99, 0, 0, 0, 10, 99},
		{[]call{ack, replace(20, 98), replaced}, api.SNew, 20, 98, 0, 0, 0, 20, 98},

		{[]call{trade(4)}, api.SPartial, 10, 99, 0, 0, 4, 6, 99},
		{[]call{trade(9), ack}, api.SPartial, 10, 99, 0, 0, 9, 1, 99},
		{[]call{trade(4), bust(1)}, api.SPartial, 9, 99, 0, 0, 3, 6, 99},
		{[]call{ack, replace(20, 98), trade(7), refused}, api.SPartial, 10, 99, 0, 0, 7, 3, 99},
		{[]call{ack, replace(20, 98), trade(12), replaced}, api.SPartial, 20, 98, 0, 0, 12, 8, 98},

		{[]call{cancel}, api.SCanceling, 10, 99, 0, 0, 0, 10, 99},
		{[]call{trade(4), cancel}, api.SCanceling, 10, 99, 0, 0, 4, 6, 99},
		{[]call{cancel, trade(9), ack}, api.SCanceling, 10, 99, 0, 0, 9, 1, 99},
		{[]call{cancel, trade(4), bust(4)}, api.SCanceling, 6, 99, 0, 0, 0, 6, 99},

		{[]call{ack, replace(20, 98)}, api.SReplacing, 10, 99, 20, 98, 0, 20, 99},
		{[]call{ack, replace(4, 100)}, api.SReplacing, 10, 99, 4, 100, 0, 10, 100},
		{[]call{trade(3), replace(10, 99)}, api.SReplacing, 10, 99, 10, 99, 3, 7, 99},
		{[]call{trade(3), replace(4, 100), trade(1)}, api.SReplacing, 10, 99, 4, 100, 4, 6, 100},
		{[]call{trade(3), replace(4, 100), trade(6)}, api.SReplacing, 10, 99, 4, 100, 9, 1, 100},
		{[]call{ack, replace(20, 98), trade(10)}, api.SReplacing, 10, 99, 20, 98, 10, 10, 99},
		{[]call{ack, replace(20, 98), trade(19)}, api.SReplacing, 10, 99, 20, 98, 19, 1, 99},
		{[]call{ack, replace(20, 98), trade(15), bust(15)}, api.SReplacing, -5, 99, 5, 98, 0, 5, 99},
		{[]call{ack, replace(4, 98), trade(7), bust(4)}, api.SReplacing, 6, 99, 0, 98, 3, 3, 99},
		{[]call{ack, replace(4, 98), trade(7), bust(7)}, api.SReplacing, 3, 99, -3, 98, 0, 3, 99},

		{[]call{trade(10)}, api.SFilled, 10, 99, 0, 0, 10, 0, 99},
		{[]call{trade(4), cancel, trade(6)}, api.SFilled, 10, 99, 0, 0, 10, 0, 99},
		{[]call{trade(10), bust(3)}, api.SFilled, 7, 99, 0, 0, 7, 0, 99},
		{[]call{trade(10), bust(10)}, api.SFilled, 0, 99, 0, 0, 0, 0, 99},
		{[]call{ack, replace(20, 100), trade(20)}, api.SFilled, 10, 99, 0, 0, 20, 0, 99},
		{[]call{ack, replace(4, 100), trade(7), replaced}, api.SFilled, 4, 100, 0, 0, 7, 0, 100},
		{[]call{ack, replace(4, 100), trade(7), replaced, bust(7)}, api.SFilled, -3, 100, 0, 0, 0, 0, 100},
		{[]call{ack, replace(20, 100), trade(10), refused}, api.SFilled, 10, 99, 0, 0, 10, 0, 99},

		{[]call{canceled}, api.SCanceled, 10, 99, 0, 0, 0, 0, 99},
		{[]call{trade(4), canceled}, api.SCanceled, 10, 99, 0, 0, 4, 0, 99},
		{[]call{trade(4), cancel, canceled, bust(4)}, api.SCanceled, 6, 99, 0, 0, 0, 0, 99},
		{[]call{ack, replace(20, 100), canceled}, api.SCanceled, 10, 99, 0, 0, 0, 0, 99},
		{[]call{ack, replace(20, 100), trade(10), canceled}, api.SCanceled, 10, 99, 0, 0, 10, 0, 99},
		{[]call{ack, replace(20, 100), trade(15), canceled}, api.SCanceled, 10, 99, 0, 0, 15, 0, 99},

		{[]call{rejected}, api.SRejected, 10, 99, 0, 0, 0, 0, 99},
		{[]call{cancel, rejected}, api.SRejected, 10, 99, 0, 0, 0, 0, 99},
		{[]call{trade(4), cancel, rejected}, api.SRejected, 10, 99, 0, 0, 4, 0, 99},
		{[]call{trade(9), cancel, rejected}, api.SRejected, 10, 99, 0, 0, 9, 0, 99},
	}
}

// ends are numbers about n and about the ends of quantities and prices.
func ends(n int) []int {
	return []int{n - 1, n, n + 1, 0, -1, 1, 2, -n, api.MaxQty - 1, api.MaxQty, api.MaxQty + 1, leastInt, leastInt + 1, greatestInt - 1, greatestInt}
}

// everyCall is every call, with the numbers about n where it has one.
func everyCall(n int) []call {
	all := []call{ack, canceled, rejected, replaced, refused, cancel}
	for _, qty := range ends(n) {
		all = append(all, trade(qty), bust(qty))
		for _, price := range ends(99) {
			all = append(all, replace(qty, price))
		}
	}
	return all
}

// right are calls that have nothing wrong in their arguments in a way's end, by names.
func (w way) right() map[string]call {
	return map[string]call{
		"Ack": ack, "Canceled": canceled, "Rejected": rejected, "Replaced": replaced, "Refused": refused, "Cancel": cancel,
		"Trade": trade(1), "Bust": bust(1), "Replace": replace(w.cum+1, 99),
	}
}

// may are the calls that may be in a state; of all others layer 20 says that they may not happen.
func may(state int) []string {
	return map[int][]string{
		api.SPending:   {"Ack", "Canceled", "Rejected", "Trade", "Bust", "Cancel"},
		api.SNew:       {"Canceled", "Trade", "Bust", "Cancel", "Replace"},
		api.SPartial:   {"Ack", "Canceled", "Trade", "Bust", "Cancel", "Replace"},
		api.SCanceling: {"Ack", "Canceled", "Rejected", "Trade", "Bust", "Refused"},
		api.SReplacing: {"Canceled", "Replaced", "Trade", "Bust", "Refused"},
		api.SFilled:    {"Bust"},
		api.SCanceled:  {"Bust"},
		api.SRejected:  {},
	}[state]
}

// eachWay runs a test of each way's end, of either side, made anew each time that it is asked for.
func eachWay(t *testing.T, test func(t *testing.T, w way, at func() *pair)) {
	for i, w := range ways() {
		for _, side := range []int{api.Buy, api.Sell} {
			t.Run(fmt.Sprint(i, " side ", side), func(t *testing.T) {
				test(t, w, func() *pair { return newPair(t, side, 10, 99, w.calls...) })
			})
		}
	}
}

// P21.2 and P21.3: each way leads to where the chapter says; the ways meet every state, with nothing, a part and all executed.
func TestWays(t *testing.T) {
	met := map[[2]int]bool{}
	eachWay(t, func(t *testing.T, w way, at func() *pair) {
		x := at()
		x.wantNow(w.state, w.qty, w.price, w.nextQty, w.nextPrice, w.cum, w.claim, w.cover)
		met[[2]int{w.state, min(w.cum, 1)}] = true
	})
	for state := api.SPending; state <= api.SRejected; state++ {
		for some := range 2 {
			// What is pending or new has nothing executed, what is partial something.
			if met[[2]int{state, some}] == (state <= api.SNew && some == 1 || state == api.SPartial && some == 0) {
				t.Errorf("the state %d, executed %d: met %v", state, some, met[[2]int{state, some}])
			}
		}
	}
}

// P21.2: every call in every state, with the arguments about all ends, does what the chapter says; what is refused changes nothing.
func TestEveryCall(t *testing.T) {
	eachWay(t, func(t *testing.T, w way, at func() *pair) {
		for _, n := range []int{w.cum, w.claim, w.qty, w.nextQty, w.cum + w.claim} {
			for _, k := range everyCall(n) {
				at().do(k)
			}
		}
	})
}

// P21.2: what may not happen in a state is ErrState, and nothing else is, where the arguments are right.
func TestMayNotHappen(t *testing.T) {
	eachWay(t, func(t *testing.T, w way, at func() *pair) {
		for name, k := range w.right() {
			x := at()
			switch {
			case name == "Bust" && w.cum == 0: // No bust is right here.
				x.wantDo(k, api.ErrArg)
			case slices.Contains(may(w.state), name):
				x.wantDo(k, api.OK)
			default:
				x.wantDo(k, api.ErrState)
				x.wantNow(w.state, w.qty, w.price, w.nextQty, w.nextPrice, w.cum, w.claim, w.cover)
			}
		}
	})
}

// P21.2: the plain calls lead to the states that they name.
func TestPlainCalls(t *testing.T) {
	leads := map[string]int{"Canceled": api.SCanceled, "Rejected": api.SRejected, "Cancel": api.SCanceling}
	eachWay(t, func(t *testing.T, w way, at func() *pair) {
		for name, state := range leads {
			if !slices.Contains(may(w.state), name) {
				continue
			}
			x := at()
			x.wantDo(w.right()[name], api.OK)
			if state == api.SCanceling {
				x.wantNow(state, w.qty, w.price, 0, 0, w.cum, w.claim, w.price)
			} else {
				x.wantNow(state, w.qty, w.price, 0, 0, w.cum, 0, w.price)
			}
		}
		if slices.Contains(may(w.state), "Ack") {
			x, state := at(), w.state
			if state == api.SPending {
				state = api.SNew
			}
			x.wantDo(ack, api.OK)
			x.wantNow(state, w.qty, w.price, 0, 0, w.cum, w.claim, w.price)
		}
	})
}

// P21.2: a quantity that is Cum or less, or above MaxQty, and a price that is none, are ErrArg, ahead of what may not happen.
func TestReplaceArguments(t *testing.T) {
	eachWay(t, func(t *testing.T, w way, at func() *pair) {
		for _, qty := range []int{w.cum, w.cum - 1, 0, -1, -w.cum, api.MaxQty + 1, leastInt, greatestInt} {
			at().wantDo(replace(qty, 99), api.ErrArg)
			at().wantDo(replace(qty, 0), api.ErrArg)
		}
		for _, price := range noQtys() {
			at().wantDo(replace(w.cum+1, price), api.ErrArg)
			at().wantDo(replace(api.MaxQty, price), api.ErrArg)
		}
		for _, qty := range []int{w.cum + 1, w.cum + 2, 30, api.MaxQty - 1, api.MaxQty} {
			for _, price := range qtys() {
				x := at()
				if w.state != api.SNew && w.state != api.SPartial {
					x.wantDo(replace(qty, price), api.ErrState)
					continue
				}
				x.wantDo(replace(qty, price), api.OK)
				x.wantNow(api.SReplacing, w.qty, w.price, qty, price, w.cum, max(w.qty, qty)-w.cum, max(w.price, price))
			}
		}
	})
}

// P21.2: Replaced and Refused, with Cum below, at and above the quantity that there is behind them.
func TestAnswersToReplace(t *testing.T) {
	for _, at := range []struct{ next, cum int }{{4, 0}, {4, 3}, {4, 4}, {4, 5}, {4, 9}, {10, 5}, {20, 9}, {20, 10}, {20, 11}, {20, 19}} {
		calls := []call{ack, replace(at.next, 98)}
		if at.cum > 0 {
			calls = append(calls, trade(at.cum))
		}
		for _, answer := range []struct {
			call       call
			qty, price int
		}{{replaced, at.next, 98}, {refused, 10, 99}} {
			x := newPair(t, api.Buy, 10, 99, calls...)
			x.wantDo(answer.call, api.OK)
			switch {
			case at.cum >= answer.qty:
				x.wantNow(api.SFilled, answer.qty, answer.price, 0, 0, at.cum, 0, answer.price)
			case at.cum > 0:
				x.wantNow(api.SPartial, answer.qty, answer.price, 0, 0, at.cum, answer.qty-at.cum, answer.price)
			default:
				x.wantNow(api.SNew, answer.qty, answer.price, 0, 0, 0, answer.qty, answer.price)
			}
			x.wantDo(replaced, api.ErrState)
			x.wantDo(refused, api.ErrState)
		}
	}
}

// P21.2: a cancel that is refused leaves it as it was ahead of the cancel, less what was executed and taken back meanwhile.
func TestAnswersToCancel(t *testing.T) {
	x := newPair(t, api.Sell, 10, 99, cancel, refused)
	x.wantNow(api.SNew, 10, 99, 0, 0, 0, 10, 99)
	x.wantDo(refused, api.ErrState)
	x = newPair(t, api.Sell, 10, 99, cancel, trade(9), refused)
	x.wantNow(api.SPartial, 10, 99, 0, 0, 9, 1, 99)
	x = newPair(t, api.Sell, 10, 99, trade(4), cancel, bust(4), refused)
	x.wantNow(api.SNew, 6, 99, 0, 0, 0, 6, 99)
	x = newPair(t, api.Sell, 10, 99, cancel)
	x.wantDo(replaced, api.ErrState)
}

// P21.2: Trade of less than 1, in every state; of one that is done, whatever the quantity; of the claim, of less and of more.
func TestTrade(t *testing.T) {
	eachWay(t, func(t *testing.T, w way, at func() *pair) {
		for _, qty := range []int{0, -1, -w.claim, -api.MaxQty, leastInt, leastInt + 1} {
			at().wantDo(trade(qty), api.ErrArg)
		}
		if w.state >= api.SFilled {
			for _, qty := range []int{1, w.cum, w.qty, api.MaxQty, api.MaxQty + 1, greatestInt} {
				if qty >= 1 {
					at().wantDo(trade(qty), api.ErrState)
				}
			}
			return
		}
		for _, qty := range []int{w.claim + 1, w.claim + 2, api.MaxQty, api.MaxQty + 1, greatestInt - 1, greatestInt} {
			at().wantDo(trade(qty), api.ErrBig)
		}
		for qty := 1; qty < w.claim; qty++ {
			x, state := at(), w.state
			if state <= api.SNew {
				state = api.SPartial
			}
			x.wantDo(trade(qty), api.OK)
			x.wantNow(state, w.qty, w.price, w.nextQty, w.nextPrice, w.cum+qty, w.claim-qty, w.cover)
		}
		x := at()
		x.wantDo(trade(w.claim), api.OK)
		x.wantNow(api.SFilled, w.qty, w.price, 0, 0, w.cum+w.claim, 0, w.price)
	})
}

// P21.2: Bust of what is not from 1 to Cum, in every state, and of what is: the claim stays what it is.
func TestBust(t *testing.T) {
	eachWay(t, func(t *testing.T, w way, at func() *pair) {
		for _, qty := range []int{0, -1, -w.cum, w.cum + 1, w.cum + 2, api.MaxQty, api.MaxQty + 1, leastInt, leastInt + 1, greatestInt - 1, greatestInt} {
			at().wantDo(bust(qty), api.ErrArg)
		}
		for qty := 1; qty <= w.cum; qty++ {
			x, state, nextQty := at(), w.state, 0
			if state == api.SRejected {
				x.wantDo(bust(qty), api.ErrState)
				continue
			}
			if state == api.SPartial && qty == w.cum {
				state = api.SNew
			}
			if state == api.SReplacing {
				nextQty = w.nextQty - qty
			}
			x.wantDo(bust(qty), api.OK)
			x.wantNow(state, w.qty-qty, w.price, nextQty, w.nextPrice, w.cum-qty, w.claim, w.cover)
		}
	})
}

// P21.2: all of it may be taken back one by one, and no more.
func TestBustOneByOne(t *testing.T) {
	for _, w := range ways() {
		if w.state == api.SRejected {
			continue
		}
		x := newPair(t, api.Buy, 10, 99, w.calls...)
		for range w.cum {
			x.wantDo(bust(1), api.OK)
		}
		x.wantDo(bust(1), api.ErrArg)
		if s := x.c.Status(); s.Cum != 0 || s.Qty != w.qty-w.cum || s.Claim != w.claim {
			t.Fatalf("%+v", s)
		}
	}
}

// P21.2 and P21.3: a child that is done has no NextQty and no NextPrice, however it came to be done, and its Cover is its Price.
func TestDoneWithinReplace(t *testing.T) {
	for _, next := range []int{4, 10, 20} {
		for _, price := range []int{98, 99, 100} {
			x := newPair(t, api.Buy, 10, 99, ack, replace(next, price))
			x.wantDo(trade(max(10, next)), api.OK)
			x.wantNow(api.SFilled, 10, 99, 0, 0, max(10, next), 0, 99)
			x = newPair(t, api.Buy, 10, 99, ack, replace(next, price))
			x.wantDo(canceled, api.OK)
			x.wantNow(api.SCanceled, 10, 99, 0, 0, 0, 0, 99)
		}
	}
}

// P21.2: what is busted of one that is done leaves no NextQty.
func TestBustOfDoneWithinReplace(t *testing.T) {
	x := newPair(t, api.Buy, 10, 99, ack, replace(20, 100), trade(15), canceled)
	x.wantDo(bust(5), api.OK)
	x.wantNow(api.SCanceled, 5, 99, 0, 0, 10, 0, 99)
	x.wantDo(bust(10), api.OK)
	x.wantNow(api.SCanceled, -5, 99, 0, 0, 0, 0, 99)
}

// P21.2 and P21.3: the greatest quantities and prices have room.
func TestGreatest(t *testing.T) {
	x := newPair(t, api.Sell, api.MaxQty, api.MaxPrice, ack)
	x.wantDo(trade(api.MaxQty-1), api.OK)
	x.wantNow(api.SPartial, api.MaxQty, api.MaxPrice, 0, 0, api.MaxQty-1, 1, api.MaxPrice)
	x.wantDo(replace(api.MaxQty-1, 1), api.ErrArg)
	x.wantDo(replace(api.MaxQty, 1), api.OK)
	x.wantNow(api.SReplacing, api.MaxQty, api.MaxPrice, api.MaxQty, 1, api.MaxQty-1, 1, api.MaxPrice)
	x.wantDo(bust(api.MaxQty-1), api.OK)
	x.wantNow(api.SReplacing, 1, api.MaxPrice, 1, 1, 0, 1, api.MaxPrice)
	x.wantDo(replaced, api.OK)
	x.wantDo(replace(api.MaxQty, api.MaxPrice), api.OK)
	x.wantDo(trade(api.MaxQty), api.OK)
	x.wantNow(api.SFilled, 1, 1, 0, 0, api.MaxQty, 0, 1)
	x.wantDo(bust(api.MaxQty), api.OK)
	x.wantNow(api.SFilled, 1-api.MaxQty, 1, 0, 0, 0, 0, 1)
}
