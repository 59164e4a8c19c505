package slicer_test

import (
	"math/bits"
	"math/rand/v2"
	"slices"
	"testing"

	"spigot/api"
)

// someUpTo is from 0 to most, of any length, now and then near its end.
func someUpTo(r *rand.Rand, most int) int {
	if r.IntN(20) == 0 {
		return max(0, most-r.IntN(2))
	}
	return r.IntN(most>>r.IntN(bits.Len(uint(most))+1) + 1)
}

func someFrom(r *rand.Rand, least, most int) int {
	return least + someUpTo(r, most-least)
}

// some is one of a list.
func some(r *rand.Rand, list ...int) int {
	return list[r.IntN(len(list))]
}

func someCurve(r *rand.Rand) []int {
	w := make([]int, 1+r.IntN(1+r.IntN(64)))
	for i := range w {
		if r.IntN(3) > 0 {
			w[i] = someUpTo(r, 1<<20)
		}
	}
	w[r.IntN(len(w))] = someFrom(r, 1, 1<<20)
	return w
}

// someOrder is right.
func someOrder(r *rand.Rand) api.Ask {
	a := api.Ask{Kind: api.AskNew, ID: "p", Account: "A", Symbol: "X", Side: 1 + r.IntN(2), Qty: someFrom(r, 1, mostQty), Price: someFrom(r, 1, mostPrice), Algo: 1 + r.IntN(4)}
	a.Start = someUpTo(r, mostTime-1)
	a.End = a.Start + someFrom(r, 1, min(longest, mostTime-a.Start))
	switch a.Algo {
	case api.Vwap:
		a.Curve = someCurve(r)
	case api.Flow:
		a.Rate = someFrom(r, 1, mostRate)
	case api.Berg:
		a.Show = someFrom(r, 1, mostQty)
	}
	return a
}

// someVolume is mostly so near to where New was that it matters to Flow.
func (x *pair) someVolume(r *rand.Rand) int {
	if r.IntN(4) == 0 {
		return someFrom(r, x.p.volume, mostLimit)
	}
	return x.p.volume + r.IntN(min(mostLimit-x.p.volume, 2*x.p.ask.Qty*mostRate/max(1, x.p.ask.Rate))+1)
}

// someNow is mostly between the ends, or about them.
func (x *pair) someNow(r *rand.Rand) int {
	start, end := x.p.ask.Start, x.p.ask.End
	switch r.IntN(8) {
	case 0:
		return someUpTo(r, mostTime)
	case 1:
		return max(0, start-r.IntN(3))
	case 2:
		return min(mostTime, end+r.IntN(3))
	}
	return start + r.IntN(end-start+1)
}

// someDone is, now and then, about where Berg comes to the whole.
func (x *pair) someDone(r *rand.Rand) int {
	if x.p.ask.Show > 0 && r.IntN(3) == 0 {
		return min(x.p.ask.Qty, max(0, x.p.ask.Qty-x.p.ask.Show+r.IntN(5)-2))
	}
	return someUpTo(r, x.p.ask.Qty)
}

// amendSome amends by chance; now and then it is wrong.
func (x *pair) amendSome(r *rand.Rand) api.Errno {
	a := x.p.ask
	qty, price := someFrom(r, 1, mostQty), someFrom(r, 1, mostPrice)
	if r.IntN(2) == 0 {
		qty = min(mostQty, max(1, a.Qty+r.IntN(21)-10))
	}
	end := a.Start + someFrom(r, 1, min(longest, mostTime-a.Start))
	if r.IntN(8) == 0 {
		qty = some(r, leastInt, -1, 0, mostQty+1, greatestInt)
	}
	if r.IntN(8) == 0 {
		price = some(r, leastInt, -1, 0, mostPrice+1, greatestInt)
	}
	if r.IntN(4) == 0 {
		end = some(r, leastInt, -1, 0, a.Start-1, a.Start, a.Start+1, a.Start+longest, a.Start+longest+1, mostTime, mostTime+1, greatestInt)
	}
	return x.amend(qty, price, end)
}

// P27.1 to P27.4: runs by chance among amendments, wrong calls among them, held against the chapters' words.
func TestByChance(t *testing.T) {
	r := rand.New(rand.NewPCG(27, 1))
	amended, told := map[api.Errno]int{}, map[api.Errno]int{}
	nothing, parts, wholes := map[int]int{}, map[int]int{}, map[int]int{}
	for range 4000 {
		x := newPair(t, someOrder(r), someUpTo(r, mostLimit))
		for range 30 {
			if r.IntN(5) == 0 {
				amended[x.amendSome(r)]++
			}
			now, volume, done := x.someNow(r), x.someVolume(r), x.someDone(r)
			if r.IntN(12) == 0 {
				now = some(r, outside(0, mostTime)...)
			}
			if r.IntN(12) == 0 {
				volume = some(r, outside(x.p.volume, mostLimit)...)
			}
			if r.IntN(12) == 0 {
				done = some(r, outside(0, x.p.ask.Qty)...)
			}
			n, e := x.target(now, volume, done)
			x.goal(now, volume, done, some(r, -1, 0, 1, 10, x.p.ask.Qty, someFrom(r, 1, mostQty), someFrom(r, 1, greatestInt)))
			told[e]++
			switch algo := x.p.ask.Algo; {
			case e != api.OK:
			case n == 0:
				nothing[algo]++
			case n < x.p.ask.Qty:
				parts[algo]++
			default:
				wholes[algo]++
			}
		}
	}
	for _, e := range []api.Errno{api.OK, api.ErrArg, api.ErrTime} {
		if amended[e] < 1000 {
			t.Errorf("the answer %d of Amend was met %d times only", e, amended[e])
		}
	}
	if told[api.OK] < 50000 || told[api.ErrArg] < 10000 {
		t.Errorf("too few of a kind: %v", told)
	}
	for algo := api.Twap; algo <= api.Berg; algo++ {
		if nothing[algo] < 1000 || parts[algo] < 1000 || wholes[algo] < 1000 {
			t.Errorf("of the algorithm %d too few of a kind: %d times nothing, %d times a part, %d times the whole", algo, nothing[algo], parts[algo], wholes[algo])
		}
	}
}

// wantNoLess looks that a target is from what it was to Qty, and its goal no less than it was either, and tells both.
func (x *pair) wantNoLess(now, volume, done, lot, was, wasGoal int) (int, int) {
	x.t.Helper()
	n, e := x.s.Target(now, volume, done)
	if e != api.OK || n < was || n < 0 || n > x.p.ask.Qty {
		x.t.Fatalf("Target(%d, %d, %d): %d, %d, behind %d, of %+v made at %d", now, volume, done, n, e, was, x.p.ask, x.p.volume)
	}
	goal, e := x.s.Goal(now, volume, done, lot)
	if e != api.OK || goal < wasGoal || goal < n || goal-n >= lot || goal > x.p.ask.Qty {
		x.t.Fatalf("Goal(%d, %d, %d, %d): %d, %d, behind %d, of the target %d, of %+v made at %d", now, volume, done, lot, goal, e, wasGoal, n, x.p.ask, x.p.volume)
	}
	return n, goal
}

// someSorted are n numbers of a function, the least one first.
func someSorted(n int, one func() int) []int {
	list := make([]int, n)
	for i := range list {
		list[i] = one()
	}
	slices.Sort(list)
	return list
}

// P27.5: from one tick to a later one, from one volume to a greater one, from one done to a greater one, and in all three at once, no target falls; among amendments.
func TestNeverFalls(t *testing.T) {
	r := rand.New(rand.NewPCG(27, 2))
	rose := [5]int{}
	for range 2000 {
		x := newPair(t, someOrder(r), someUpTo(r, mostLimit))
		for range 4 {
			const many = 12
			ticks := someSorted(many, func() int { return x.someNow(r) })
			volumes := someSorted(many, func() int { return x.someVolume(r) })
			dones := someSorted(many, func() int { return x.someDone(r) })
			now, volume, done, lot := x.someNow(r), x.someVolume(r), x.someDone(r), someFrom(r, 1, mostQty)
			last := [4]int{}
			goals := [4]int{}
			for i := range many {
				last[0], goals[0] = x.wantNoLess(ticks[i], volume, done, lot, last[0], goals[0])
				last[1], goals[1] = x.wantNoLess(now, volumes[i], done, lot, last[1], goals[1])
				last[2], goals[2] = x.wantNoLess(now, volume, dones[i], lot, last[2], goals[2])
				was := last[3]
				last[3], goals[3] = x.wantNoLess(ticks[i], volumes[i], dones[i], lot, was, goals[3])
				if last[3] > was {
					rose[x.p.ask.Algo]++
				}
			}
			x.amendSome(r)
		}
	}
	for algo := api.Twap; algo <= api.Berg; algo++ {
		if rose[algo] < 2000 {
			t.Errorf("the algorithm %d has risen %d times only", algo, rose[algo])
		}
	}
}

// P27.5: all that there is of small orders: each tick, volume and done against the next one.
func TestNeverFallsStepByStep(t *testing.T) {
	eachOrder(t, func(t *testing.T, a api.Ask) {
		a.Start, a.End = 3, 12
		for _, qty := range []int{1, 2, 7, 10} {
			a.Qty = qty
			x := newPair(t, a, 5)
			for now := range 16 {
				for volume := 5; volume < 50; volume++ {
					for done := range qty + 1 {
						n, e := x.target(now, volume, done)
						if e != api.OK {
							t.Fatalf("Target(%d, %d, %d): %d", now, volume, done, e)
						}
						x.wantNoLess(now+1, volume, done, 1, n, n)
						x.wantNoLess(now, volume+1, done, 1, n, n)
						if done < qty {
							x.wantNoLess(now, volume, done+1, 1, n, n)
						}
					}
				}
			}
		}
	})
}

// P27.5: it comes to the whole: Twap and Vwap at the end, Flow as the market trades enough, Berg as all that is shown is executed, again and again.
func TestComesToTheWhole(t *testing.T) {
	r := rand.New(rand.NewPCG(27, 3))
	for range 3000 {
		x := newPair(t, someOrder(r), someUpTo(r, mostLimit/2))
		a := x.p.ask
		switch a.Algo {
		case api.Twap, api.Vwap:
			x.wantTarget(a.End, x.p.volume, 0, a.Qty, api.OK)
		case api.Flow:
			x.wantTarget(a.Start, x.p.volume+a.Qty*mostRate, 0, a.Qty, api.OK)
		case api.Berg:
			done := 0
			for range 50 {
				n, _ := x.target(a.Start, x.p.volume, done)
				if done < a.Qty && n <= done {
					t.Fatalf("Target of %d done: %d, of %+v", done, n, a)
				}
				done = n
			}
			x.wantTarget(a.Start, x.p.volume, a.Qty, a.Qty, api.OK)
		}
	}
}

// Rules 2 and 5: what is told is the same however often, and in whatever order, it is asked for.
func TestAskedTwice(t *testing.T) {
	r := rand.New(rand.NewPCG(27, 4))
	for range 1000 {
		x := newPair(t, someOrder(r), someUpTo(r, mostLimit))
		now, volume, done := x.someNow(r), x.someVolume(r), x.someDone(r)
		x.target(now, volume, done)
		for range 3 {
			x.target(x.someNow(r), x.someVolume(r), x.someDone(r))
			x.look()
		}
		x.wantNoTarget(-1, volume, done)
		x.wantNoTarget(now, x.p.volume-1, done)
		x.target(now, volume, done)
	}
}
