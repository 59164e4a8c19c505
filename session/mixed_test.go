package session_test

import (
	"math/rand/v2"
	"testing"

	"spigot/api"
)

// fewCalls are all calls of a session, right and wrong ones, each of both the session and the plain one.
func fewCalls() []func(*pair) {
	return []func(*pair){
		func(x *pair) { x.send(newOf("n", "X", api.Buy, 10, 99), true) },
		func(x *pair) { x.send(withSeq(replaceOf("r", 10, 99), 5), true) },
		func(x *pair) { x.send(api.Order{Kind: api.OrderCancel, ID: "c", Qty: 1}, false) },
		func(x *pair) { x.pop() },
		func(x *pair) { x.take(x.p.taken) },
		func(x *pair) { x.take(x.p.taken + 1) },
		func(x *pair) { x.take(x.p.taken + 2) },
		func(x *pair) { x.fault() },
		func(x *pair) { x.turn(true) },
		func(x *pair) { x.turn(false) },
	}
}

// P22.1 to P22.5: whatever five calls are made, one behind the other, in a room of 1 or 2, each is answered as the chapter says, and so is a Pop of all behind them.
func TestAllCalls(t *testing.T) {
	calls := fewCalls()
	n := len(calls)
	for _, room := range []int{1, 2} {
		for which := range n * n * n * n * n {
			x := newPair(t, room)
			for range 5 {
				calls[which%n](x)
				which /= n
			}
			x.popAll()
		}
	}
}

// popAll looks at all that wait, and that nothing waits behind them.
func (x *pair) popAll() {
	x.t.Helper()
	for range len(x.p.list) + 1 {
		x.pop()
	}
}

// someOrder is an order by chance, with a number by chance, and whether it is right.
func someOrder(r *rand.Rand, rights, wrongs []api.Order) (api.Order, bool) {
	seqs := orderSeqs()
	seq := seqs[r.IntN(len(seqs))]
	if r.IntN(5) == 0 {
		return withSeq(wrongs[r.IntN(len(wrongs))], seq), false
	}
	return withSeq(rights[r.IntN(len(rights))], seq), true
}

// someSeq is mostly the next number, or one about it.
func someSeq(r *rand.Rand, last int) int {
	switch r.IntN(8) {
	case 0:
		return someSeqs()[r.IntN(len(someSeqs()))]
	case 1:
		return last + 3 - r.IntN(6)
	}
	return last + 1
}

// P22.2 to P22.5: long runs by chance, held against a plain list: numbers go in and come out without a hole, and each error is met.
func TestRuns(t *testing.T) {
	rights, wrongs := rightOrders(), wrongOrders()
	met := map[api.Errno]int{}
	for i := range 200 {
		r := rand.New(rand.NewPCG(22, uint64(i)))
		x := newPair(t, []int{1, 2, 3, 10, 100, api.MaxRing}[i%6])
		in, out, sends := 0, 0, 3
		for step := range 3000 {
			if step%(x.p.room+20) == 0 {
				sends = 1 + r.IntN(5) // of 6: whether it goes toward full or toward empty
			}
			switch n := r.IntN(40); {
			case n < 30 && r.IntN(6) < sends:
				o, right := someOrder(r, rights, wrongs)
				e := x.send(o, right)
				met[e]++
				if e == api.OK {
					in++
				}
			case n < 30:
				o, e := x.pop()
				met[e]++
				if e == api.OK {
					out++
				}
				if e == api.OK && o.Seq != out {
					t.Fatalf("the number %d comes out behind %d", o.Seq, out-1)
				}
			case n < 35:
				met[x.take(someSeq(r, x.p.taken))]++
			case n < 36:
				x.fault()
			case n < 37:
				x.turn(true)
			default:
				x.turn(false)
			}
			if x.s.Sent() != in || x.s.Waiting() != in-out {
				t.Fatalf("%d went in, %d came out: Sent: %d, Waiting: %d", in, out, x.s.Sent(), x.s.Waiting())
			}
		}
		x.popAll()
	}
	for _, e := range []api.Errno{api.OK, api.ErrArg, api.ErrDown, api.ErrFull, api.ErrEmpty, api.ErrSeq, api.ErrGap} {
		if met[e] < 100 {
			t.Errorf("the answer %d was met %d times only", e, met[e])
		}
	}
}
