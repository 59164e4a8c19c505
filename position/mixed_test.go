package position_test

import (
	"math/rand/v2"
	"testing"

	"spigot/api"
)

// exec is an execution.
type exec struct {
	key
	qty, price int
}

// someNumber is a number from 1 to most of any length, or now and then one beyond.
func someNumber(r *rand.Rand, most int) int {
	switch r.IntN(40) {
	case 0:
		return beyond(most)[r.IntN(10)]
	case 1:
		return most
	case 2:
		return 1
	}
	return 1 + r.IntN(most>>r.IntN(40))
}

// someKey is a side of an account's symbol, now and then one that there isn't.
func (x *pair) someKey(r *rand.Rand) key {
	k := key{r.IntN(x.p.accounts), r.IntN(x.p.symbols), 1 + r.IntN(2)}
	switch r.IntN(60) {
	case 0:
		k.account = none(x.p.accounts)[r.IntN(14)]
	case 1:
		k.symbol = none(x.p.symbols)[r.IntN(14)]
	case 2:
		k.side = noSides[r.IntN(len(noSides))]
	}
	return k
}

// near is a bust about where something ends: of the whole quantity, of the whole worth, or of one more than either.
func (x *pair) near(r *rand.Rand, k key) exec {
	qty, worth := x.b.Bought(k.account, k.symbol)
	if k.side == api.Sell {
		qty, worth = x.b.Sold(k.account, k.symbol)
	}
	switch r.IntN(4) {
	case 0:
		return exec{k, qty, 1}
	case 1:
		return exec{k, 1, worth}
	case 2:
		return exec{k, min(qty, api.MaxQty) + r.IntN(2), 1}
	}
	return exec{k, 1, min(worth, api.MaxPrice) + r.IntN(2)}
}

// P18.2, P18.3: long runs over several accounts and symbols, held against a plain count; no step changes anything of another account or symbol.
func TestMixed(t *testing.T) {
	for seed, size := range [][3]int{{1, 1, 20000}, {2, 3, 20000}, {5, 2, 20000}, {api.MaxAccounts, api.MaxSymbols, 3000}} {
		r := rand.New(rand.NewPCG(18, uint64(seed)))
		x := newPair(t, size[0], size[1])
		met := map[[2]int]int{}
		var done []exec
		for range size[2] {
			k := x.someKey(r)
			step, n := r.IntN(2), exec{k, someNumber(r, api.MaxQty), someNumber(r, api.MaxPrice)}
			if step == 1 {
				switch r.IntN(3) {
				case 0:
					n = x.near(r, k)
				case 1:
					if len(done) > 0 {
						n = done[r.IntN(len(done))]
					}
				}
			}
			e := x.step(step, n)
			if step == 0 && e == api.OK {
				done = append(done, n)
			}
			met[[2]int{step, int(e)}]++
			x.same()
		}
		for step := range 2 {
			for _, e := range []api.Errno{api.OK, api.ErrArg, api.ErrOver} {
				if met[[2]int{step, int(e)}] < 20 {
					t.Errorf("the run of %v is too tame: %v", size, met)
				}
			}
		}
	}
}

// step does with both what the plain count has an answer to.
func (x *pair) step(step int, n exec) api.Errno {
	x.t.Helper()
	got, want := api.OK, api.OK
	if step == 0 {
		got, want = x.b.Fill(n.account, n.symbol, n.side, n.qty, n.price), x.p.fill(n.key, n.qty, n.price)
	} else {
		got, want = x.b.Bust(n.account, n.symbol, n.side, n.qty, n.price), x.p.bust(n.key, n.qty, n.price)
	}
	if got != want {
		x.t.Fatalf("the step %d of %v: %d; the document asks for %d", step, n, got, want)
	}
	return want
}

// someFills is executions, on both sides of a few symbols, that are all taken in any order.
func someFills(r *rand.Rand, many int) []exec {
	list := make([]exec, many)
	for i := range list {
		list[i] = exec{key{r.IntN(2), r.IntN(3), 1 + r.IntN(2)}, 1 + r.IntN(1<<(1+r.IntN(28))), 1 + r.IntN(1<<(1+r.IntN(28)))}
	}
	return list
}

func (x *pair) all() [6][5]int {
	var list [6][5]int
	for i := range list {
		list[i] = told(x.b, i/3, i%3)
	}
	return list
}

// P18.4: the same fills come to the same in whatever order.
func TestAnyOrder(t *testing.T) {
	r := rand.New(rand.NewPCG(18, 100))
	for range 60 {
		fills := someFills(r, 1+r.IntN(40))
		var want [6][5]int
		for try := range 6 {
			x := newPair(t, 2, 3)
			for _, n := range fills {
				x.fill(n.key, n.qty, n.price, api.OK)
			}
			if try == 0 {
				want = x.all()
			} else if got := x.all(); got != want {
				t.Fatalf("in another order the fills come to %v, not to %v", got, want)
			}
			r.Shuffle(len(fills), func(i, j int) { fills[i], fills[j] = fills[j], fills[i] })
		}
	}
}

// P18.4: a fill that is busted leaves what was, at whatever was ahead of it: also at the ends of what has room.
func TestFillAndItsBust(t *testing.T) {
	r := rand.New(rand.NewPCG(18, 200))
	x := newPair(t, 2, 3)
	for _, n := range someFills(r, 400) {
		x.fill(n.key, n.qty, n.price, api.OK)
		was := x.all()
		for _, m := range someFills(r, 5) {
			x.fill(m.key, m.qty, m.price, api.OK)
			x.bust(m.key, m.qty, m.price, api.OK)
			if now := x.all(); now != was {
				t.Fatalf("the fill %v and its bust leave %v, not %v", m, now, was)
			}
		}
	}
	k := key{1, 2, api.Sell}
	y := newPair(t, 2, 3)
	y.fill(k, oneFactor-1, anotherFactor, api.OK)
	y.fill(k, 1, anotherFactor, api.OK)
	y.bust(k, 1, anotherFactor, api.OK)
	wantTold(t, y.b, 1, 2, [5]int{0, 0, oneFactor - 1, greatestInt - anotherFactor, 1 - oneFactor})
}

// P18.4: fills each of which is busted, at any time behind it, in any order, among others that aren't, leave what those others come to.
func TestEachBusted(t *testing.T) {
	r := rand.New(rand.NewPCG(18, 300))
	for range 100 {
		x, y := newPair(t, 2, 3), newPair(t, 2, 3)
		kept, gone := someFills(r, r.IntN(20)), someFills(r, 1+r.IntN(20))
		for _, n := range kept {
			y.fill(n.key, n.qty, n.price, api.OK)
		}
		var out []exec
		for len(kept)+len(gone)+len(out) > 0 {
			switch r.IntN(3) {
			case 0:
				if len(kept) > 0 {
					x.fill(kept[0].key, kept[0].qty, kept[0].price, api.OK)
					kept = kept[1:]
				}
			case 1:
				if len(gone) > 0 {
					x.fill(gone[0].key, gone[0].qty, gone[0].price, api.OK)
					out, gone = append(out, gone[0]), gone[1:]
				}
			case 2:
				if len(out) > 0 {
					i := r.IntN(len(out))
					x.bust(out[i].key, out[i].qty, out[i].price, api.OK)
					out[i] = out[len(out)-1]
					out = out[:len(out)-1]
				}
			}
		}
		if got, want := x.all(), y.all(); got != want {
			t.Fatalf("the fills that were busted leave %v, not %v", got, want)
		}
	}
}

// P18.2, P18.4: every row of a few steps on both sides of one symbol.
func TestAllRows(t *testing.T) {
	var acts []exec
	for _, n := range [][2]int{{1, 1}, {2, 1}, {1, 3}} {
		acts = append(acts, exec{key{0, 0, api.Buy}, n[0], n[1]}, exec{key{0, 0, api.Sell}, n[0], n[1]})
	}
	all := 2 * len(acts)
	for row := range all * all * all * all {
		x := newPair(t, 1, 1)
		for range 4 {
			x.step(row%2, acts[row%all/2])
			row /= all
		}
		x.same()
	}
}
