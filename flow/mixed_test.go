package flow_test

import (
	"math/bits"
	"math/rand/v2"
	"testing"

	"spigot/api"
	"spigot/flow"
)

// someUpTo is from 0 to most, of any length, now and then near its end.
func someUpTo(r *rand.Rand, most int) int {
	if r.IntN(20) == 0 {
		return most - r.IntN(2)
	}
	return r.IntN(most>>r.IntN(bits.Len(uint(most))) + 1)
}

// some is one of a list.
func some(r *rand.Rand, list []int) int {
	return list[r.IntN(len(list))]
}

// someRight is what a target may be asked of: mostly the part comes to about the quantity.
func someRight(r *rand.Rand) (qty, rate, volume int) {
	qty, rate = someUpTo(r, mostQty), someUpTo(r, mostRate)
	if r.IntN(3) == 0 {
		return qty, rate, someUpTo(r, mostTotal)
	}
	if rate < 1 {
		rate = 1 + r.IntN(mostRate)
	}
	// Half of these volumes, about, lie beyond the one at which the quantity is reached; none is above 2^55.
	return qty, rate, r.IntN(2*qty*mostRate/rate + 2)
}

// P25.2: runs by chance of what is right, held against the chapter's words.
func TestTargetsByChance(t *testing.T) {
	r := rand.New(rand.NewPCG(25, 1))
	below, just := 0, 0
	for range 200000 {
		qty, rate, volume := someRight(r)
		want, e := plainTarget(qty, rate, volume)
		if e != api.OK {
			t.Fatalf("Target(%d, %d, %d) may be", qty, rate, volume)
		}
		wantTarget(t, qty, rate, volume, want, e)
		wantNoMore(t, qty, rate, volume, want)
		if want > 0 && want < qty {
			below++
		}
		if want > 0 && want == qty {
			just++
		}
	}
	if below < 20000 || just < 20000 {
		t.Errorf("%d targets were below their quantities, %d just these: too few", below, just)
	}
}

// P25.2: runs by chance of which something may be wrong, or several things.
func TestWrongTargetsByChance(t *testing.T) {
	r := rand.New(rand.NewPCG(25, 2))
	told := map[api.Errno]int{}
	for range 100000 {
		qty, rate, volume := someRight(r)
		if r.IntN(5) == 0 {
			qty = some(r, outside(0, mostQty))
		}
		if r.IntN(5) == 0 {
			rate = some(r, outside(0, mostRate))
		}
		if r.IntN(5) == 0 {
			volume = some(r, outside(0, mostTotal))
		}
		if r.IntN(50) == 0 {
			qty, rate, volume = int(r.Uint64()), int(r.Uint64()), int(r.Uint64())
		}
		want, e := plainTarget(qty, rate, volume)
		wantTarget(t, qty, rate, volume, want, e)
		told[e]++
	}
	if told[api.OK] < 10000 || told[api.ErrArg] < 10000 {
		t.Errorf("too few of a kind: %v", told)
	}
}

// P25.3: of two volumes, and of two rates, the greater one never has the lesser target.
func TestTargetsNeverFallByChance(t *testing.T) {
	r := rand.New(rand.NewPCG(25, 3))
	rose := 0
	for range 100000 {
		qty, rate, volume := someRight(r)
		here := wantNoLess(t, qty, rate, volume, 0)
		more := min(mostTotal, volume+1+r.IntN(volume+3))
		next := min(mostTotal, volume+1)
		near := wantNoLess(t, qty, rate, next, here)
		far := wantNoLess(t, qty, rate, max(next, more), near)
		steep := wantNoLess(t, qty, min(mostRate, rate+1), volume, here)
		steepest := wantNoLess(t, qty, min(mostRate, rate+1+r.IntN(mostRate)), volume, steep)
		if far > here && steepest > here {
			rose++
		}
	}
	if rose < 10000 {
		t.Errorf("only %d targets rose both ways", rose)
	}
}

// somePrint is mostly right.
func somePrint(r *rand.Rand, symbols int) (symbol, qty int) {
	symbol, qty = r.IntN(symbols), 1+someUpTo(r, mostQty-1)
	if r.IntN(8) == 0 {
		symbol = some(r, none(symbols))
	}
	if r.IntN(8) == 0 {
		qty = some(r, append(outside(1, mostQty), 0))
	}
	return symbol, qty
}

// P25.1: runs by chance, from nothing and from just below the limit, held against the chapter's words: all totals are looked at behind each print.
func TestTapesByChance(t *testing.T) {
	r := rand.New(rand.NewPCG(25, 4))
	told := map[api.Errno]int{}
	for run := range 60 {
		x := newPair(t, 1+r.IntN(mostSymbols))
		if run%2 == 0 { // one symbol nears the limit
			x.fill(r.IntN(len(x.p)), mostTotal-someUpTo(r, 4*mostQty))
		}
		for range 500 {
			told[x.follow(somePrint(r, len(x.p)))]++
		}
	}
	if told[api.OK] < 10000 || told[api.ErrArg] < 5000 || told[api.ErrOver] < 200 {
		t.Errorf("too few of a kind: %v", told)
	}
}

// P25.1 to P25.3: as a market trades by chance, the target of what the tape tells never falls, and is what the chapter's words say of all that was printed.
func TestTargetsOfATape(t *testing.T) {
	r := rand.New(rand.NewPCG(25, 5))
	for range 300 {
		x := newPair(t, 1+r.IntN(mostSymbols))
		symbol, qty, rate, was := r.IntN(len(x.p)), 1+someUpTo(r, mostQty-1), r.IntN(mostRate+1), 0
		for range 60 {
			at, much := r.IntN(len(x.p)), 1+r.IntN(1+qty/10)
			x.print(at, much, api.OK)
			now := wantNoLess(t, qty, rate, x.tape.Total(symbol), was)
			if at != symbol && now != was {
				t.Fatalf("another symbol's print has brought the target from %d to %d", was, now)
			}
			want, e := plainTarget(qty, rate, int(x.p[symbol].Int64()))
			wantTarget(t, qty, rate, x.tape.Total(symbol), want, e)
			was = now
		}
	}
}

// Rule 5: what is told is the same however often it is asked for.
func TestAskedTwice(t *testing.T) {
	r := rand.New(rand.NewPCG(25, 6))
	x := newPair(t, 3)
	for range 1000 {
		x.follow(somePrint(r, 3))
		x.same()
		q, rate, volume := someRight(r)
		a, _ := flow.Target(q, rate, volume)
		if b, _ := flow.Target(q, rate, volume); a != b {
			t.Fatalf("Target(%d, %d, %d) is %d, and then %d", q, rate, volume, a, b)
		}
	}
}
