package session_test

import (
	"strconv"
	"strings"
	"testing"

	"spigot/api"
)

func newOf(id, symbol string, side, qty, price int) api.Order {
	return api.Order{Kind: api.OrderNew, ID: id, Symbol: symbol, Side: side, Qty: qty, Price: price}
}

func cancelOf(id string) api.Order {
	return api.Order{Kind: api.OrderCancel, ID: id}
}

func replaceOf(id string, qty, price int) api.Order {
	return api.Order{Kind: api.OrderReplace, ID: id, Qty: qty, Price: price}
}

// withSeq is the same order with a number.
func withSeq(o api.Order, seq int) api.Order {
	o.Seq = seq
	return o
}

// orderSeqs are numbers that an order may come with: none of them counts.
func orderSeqs() []int {
	return []int{0, 1, 2, -1, 99, api.MaxTime, api.MaxTime + 1, leastInt, greatestInt}
}

func names() []string {
	return []string{"a", "!", "~", "c1", "é", "世", strings.Repeat("a", api.MaxName), strings.Repeat("é", api.MaxName)}
}

// noNames are texts that are no names, for one reason each.
func noNames() []string {
	return []string{"", " ", "a b", "a\x7f", "a=b", "a\x01", "\xff", strings.Repeat("a", api.MaxName+1), strings.Repeat("é", api.MaxName+1)}
}

// noNumbers are no quantities and no prices: both have the same ends.
func noNumbers() []int {
	return []int{0, -1, api.MaxQty + 1, leastInt, greatestInt}
}

func noSides() []int {
	return []int{0, -1, 3, 1<<32 + 1, leastInt, greatestInt}
}

// rightOrders are orders of each kind, at the edges of what they may be, without a number.
func rightOrders() []api.Order {
	var all []api.Order
	for _, name := range names() {
		all = append(all, newOf(name, "X", api.Buy, 10, 99), newOf("c", name, api.Sell, 10, 99), cancelOf(name), replaceOf(name, 10, 99))
	}
	for _, n := range []int{1, 2, 1 << 32, api.MaxQty - 1, api.MaxQty} {
		all = append(all, newOf("c", "X", api.Sell, n, 99), newOf("c", "X", api.Buy, 10, n), newOf("c", "X", api.Buy, n, n))
		all = append(all, replaceOf("c", n, 99), replaceOf("c", 10, n), replaceOf("c", n, n))
	}
	return all
}

// wrongOrders are orders of each kind that are not right for one reason each, whatever their number is.
func wrongOrders() []api.Order {
	all := []api.Order{{}, {ID: "c"}}
	for _, o := range []api.Order{newOf("c", "X", api.Buy, 10, 99), cancelOf("c"), replaceOf("c", 10, 99)} {
		for _, kind := range []int{0, -1, 4, 1<<32 + o.Kind, 'D', leastInt, greatestInt} {
			w := o
			w.Kind = kind
			all = append(all, w)
		}
	}
	for _, name := range noNames() {
		all = append(all, newOf(name, "X", api.Buy, 10, 99), newOf("c", name, api.Buy, 10, 99), cancelOf(name), replaceOf(name, 10, 99))
	}
	for _, n := range noNumbers() {
		all = append(all, newOf("c", "X", api.Buy, n, 99), newOf("c", "X", api.Buy, 10, n), replaceOf("c", n, 99), replaceOf("c", 10, n))
	}
	for _, side := range noSides() {
		all = append(all, newOf("c", "X", side, 10, 99))
	}
	return append(all, spareOrders()...)
}

// spareOrders are orders in which something is set that their kind doesn't use.
func spareOrders() []api.Order {
	c, r := api.OrderCancel, api.OrderReplace
	return []api.Order{
		{Kind: c, ID: "c", Symbol: "X"}, {Kind: c, ID: "c", Symbol: " "}, {Kind: c, ID: "c", Side: api.Buy}, {Kind: c, ID: "c", Side: -1},
		{Kind: c, ID: "c", Qty: 10}, {Kind: c, ID: "c", Qty: -1}, {Kind: c, ID: "c", Price: 99}, {Kind: c, ID: "c", Price: leastInt},
		{Kind: c, ID: "c", Qty: 10, Price: 99}, {Kind: c, ID: "c", Symbol: "X", Side: api.Buy, Qty: 10, Price: 99},
		{Kind: r, ID: "c", Symbol: "X", Qty: 10, Price: 99}, {Kind: r, ID: "c", Side: api.Sell, Qty: 10, Price: 99},
		{Kind: r, ID: "c", Symbol: "X", Side: api.Sell, Qty: 10, Price: 99}, {Kind: r, ID: "c", Side: -1, Qty: 10, Price: 99},
	}
}

// P22.2, P22.5: an order of each kind that is right but for its number waits, whatever that is, and comes out whole, with its own.
func TestSendRight(t *testing.T) {
	x := newPair(t, 3)
	seq := 0
	for _, o := range rightOrders() {
		for _, came := range orderSeqs() {
			x.wantSend(withSeq(o, came), api.OK)
			seq++
			x.wantPop(o, seq)
		}
	}
	x.wantEmpty()
}

// P22.2, P22.5: all of them at once, in their order.
func TestSendMany(t *testing.T) {
	all := rightOrders()
	x := newPair(t, len(all))
	for i, o := range all {
		x.wantSend(withSeq(o, i%3), api.OK)
	}
	x.wantSend(all[0], api.ErrFull)
	for i, o := range all {
		x.wantPop(o, i+1)
	}
}

// P22.2: one that isn't right is ErrArg, whatever its number is, and uses up none.
func TestSendWrong(t *testing.T) {
	x := newPair(t, 2)
	for i, o := range wrongOrders() {
		for _, came := range orderSeqs() {
			x.wantSend(withSeq(o, came), api.ErrArg)
		}
		x.wantSend(cancelOf("c"), api.OK)
		x.wantPop(cancelOf("c"), i+1)
	}
}

// P22.2: what a right order is answered with, empty, with some that wait and full, up and down; one that isn't right is ErrArg in all of them, and one that is down is ErrDown, full as it is. What waits stays as it is.
func TestSendErrors(t *testing.T) {
	const room = 3
	for many := range room + 1 {
		for _, down := range []bool{false, true} {
			x := newPair(t, room)
			for i := range many {
				x.wantSend(cancelOf("w"+strconv.Itoa(i)), api.OK)
			}
			x.turn(down)
			for _, o := range wrongOrders() {
				x.wantSend(withSeq(o, 1), api.ErrArg)
			}
			if down || many == room {
				e := api.ErrFull
				if down {
					e = api.ErrDown
				}
				for _, o := range rightOrders() {
					x.wantSend(o, e)
				}
			}
			for i := range many {
				x.wantPop(cancelOf("w"+strconv.Itoa(i)), i+1)
			}
			x.wantEmpty()
			x.turn(false)
			x.wantSend(cancelOf("n"), api.OK)
			x.wantPop(cancelOf("n"), many+1)
		}
	}
}

// P22.2: a session that is down and full is full again as it is up; there is room behind a Pop, down or up.
func TestDownAndFull(t *testing.T) {
	x := newPair(t, 1)
	x.wantSend(cancelOf("a"), api.OK)
	x.wantSend(cancelOf("b"), api.ErrFull)
	x.turn(true)
	x.wantSend(cancelOf("b"), api.ErrDown)
	x.turn(false)
	x.wantSend(cancelOf("b"), api.ErrFull)
	x.turn(true)
	x.wantPop(cancelOf("a"), 1)
	x.wantSend(cancelOf("b"), api.ErrDown)
	x.turn(false)
	x.wantSend(cancelOf("b"), api.OK)
	x.wantPop(cancelOf("b"), 2)
}

// P22.2: a session in which something went wrong sends still, and hands out.
func TestSendBehindFaults(t *testing.T) {
	x := newPair(t, 2)
	for i := range 5 {
		x.fault()
		x.wantSend(replaceOf("c", 1+i, 9), api.OK)
		x.wantPop(replaceOf("c", 1+i, 9), i+1)
	}
}

// P22.2: Pop of nothing, new, emptied, down and up, again and again.
func TestPopOfNothing(t *testing.T) {
	x := newPair(t, 2)
	for i := range 4 {
		for _, down := range []bool{false, true, true, false} {
			x.turn(down)
			x.wantEmpty()
			x.wantEmpty()
		}
		o := newOf("c", "X", api.Sell, 1+i, api.MaxPrice)
		x.wantSend(o, api.OK)
		x.turn(i%2 == 0)
		x.wantPop(o, i+1)
		x.wantEmpty()
	}
}

// P22.2, P22.5: numbers go on past Pops, past Down and Up, past what is refused, with the room filled and emptied again and again.
func TestNumbers(t *testing.T) {
	for _, room := range []int{1, 2, 3, 7, api.MaxRing} {
		x := newPair(t, room)
		first, seq := 1, 0
		for round := range 6 {
			for x.s.Waiting() < room {
				x.wantSend(cancelOf("x y"), api.ErrArg)
				x.turn(true)
				x.wantSend(cancelOf("c"), api.ErrDown)
				x.turn(false)
				seq++
				x.wantSend(replaceOf("c", seq, 1+round), api.OK)
				if x.s.Sent() != seq {
					t.Fatalf("Sent: %d behind %d", x.s.Sent(), seq)
				}
			}
			x.wantSend(cancelOf("c"), api.ErrFull)
			// Not all come out each time, so that a row begins anywhere in its room.
			for range min(room, 1+room*(round+1)/4) {
				if o, e := x.pop(); o.Seq != first || o.Qty != first || e != api.OK {
					t.Fatalf("Pop: %+v, %d; the document asks for the number %d", o, e, first)
				}
				first++
			}
		}
	}
}

// P22.2: what is handed in stays as it is, and what is done with it behind that isn't seen.
func TestHandedIn(t *testing.T) {
	x := newPair(t, 2)
	o := newOf("c", "X", api.Buy, 10, 99)
	o.Seq = 7
	x.wantSend(o, api.OK)
	if o != withSeq(newOf("c", "X", api.Buy, 10, 99), 7) {
		t.Fatalf("what was handed in is %+v", o)
	}
	o.ID, o.Qty = "d", 20
	x.wantSend(o, api.OK)
	out, _ := x.pop()
	if out != withSeq(newOf("c", "X", api.Buy, 10, 99), 1) {
		t.Fatalf("the first one is %+v", out)
	}
	out.ID, out.Seq = "e", 50
	x.wantPop(newOf("d", "X", api.Buy, 20, 99), 2)
}
