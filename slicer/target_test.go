package slicer_test

import (
	"testing"

	"spigot/api"
)

// wantTargets asks for one at each tick that is handed in.
func wantTargets(x *pair, want map[int]int) {
	x.t.Helper()
	for now, n := range want {
		for _, volume := range []int{x.p.volume, x.p.volume + 1, mostLimit} {
			for _, done := range []int{0, 1, x.p.ask.Qty} {
				x.wantTarget(now, volume, done, n, api.OK)
			}
		}
	}
}

// P27.3: Twap of 100 from 20 to 60, and behind amendments: in numbers worked out by hand.
func TestTwap(t *testing.T) {
	x := newPair(t, newOrder(api.Twap), 10)
	wantTargets(x, map[int]int{0: 0, 1: 0, 19: 0, 20: 0, 21: 2, 22: 5, 23: 7, 24: 10, 40: 50, 41: 52, 58: 95, 59: 97, 60: 100, 61: 100, mostTime: 100})
	x.wantAmend(100, 9, 100, api.OK)
	wantTargets(x, map[int]int{0: 0, 19: 0, 20: 0, 21: 1, 22: 2, 24: 5, 59: 48, 60: 50, 61: 51, 99: 98, 100: 100, 101: 100, mostTime: 100})
	x.wantAmend(7, 9, 21, api.OK)
	wantTargets(x, map[int]int{0: 0, 19: 0, 20: 0, 21: 7, 22: 7, 60: 7, mostTime: 7})
	x.wantAmend(mostQty, 9, 20+longest, api.OK)
	wantTargets(x, map[int]int{19: 0, 20: 0, 21: 1 << 10, 30: 10 << 10, 20 + longest/2: 1 << 39, 20 + longest - 1: 1<<40 - 1<<10, 20 + longest: 1 << 40, mostTime: 1 << 40})
}

// P27.3: Vwap of 100 from 20 to 60 along 1 and 3, and behind amendments: in numbers worked out by hand.
func TestVwap(t *testing.T) {
	x := newPair(t, newOrder(api.Vwap), 10)
	wantTargets(x, map[int]int{0: 0, 1: 0, 19: 0, 20: 0, 21: 1, 22: 2, 24: 5, 39: 23, 40: 25, 41: 28, 42: 32, 58: 92, 59: 96, 60: 100, 61: 100, mostTime: 100})
	x.wantAmend(100, 9, 100, api.OK)
	wantTargets(x, map[int]int{0: 0, 19: 0, 20: 0, 22: 1, 24: 2, 59: 24, 60: 25, 61: 26, 64: 32, 99: 98, 100: 100, 101: 100, mostTime: 100})
	x.wantAmend(10, 9, 28, api.OK)
	wantTargets(x, map[int]int{20: 0, 21: 0, 22: 1, 24: 2, 26: 6, 27: 8, 28: 10, 29: 10, mostTime: 10})
}

// P27.3: Flow of 100 at a quarter of what was traded since New, down: in numbers worked out by hand, at any tick from Start on.
func TestFlow(t *testing.T) {
	for _, base := range []int{0, 1, 10, 1 << 40, mostLimit - 1000} {
		x := newPair(t, newOrder(api.Flow), base)
		for traded, want := range map[int]int{0: 0, 1: 0, 3: 0, 4: 1, 7: 1, 8: 2, 90: 22, 99: 24, 100: 25, 101: 25, 396: 99, 399: 99, 400: 100, 401: 100, 500: 100, 1000: 100} {
			for _, now := range []int{20, 21, 40, 59, 60, 61, mostTime} {
				for _, done := range []int{0, 1, 99, 100} {
					x.wantTarget(now, base+traded, done, want, api.OK)
				}
			}
			for _, now := range []int{0, 1, 18, 19} {
				x.wantTarget(now, base+traded, 0, 0, api.OK)
			}
		}
		x.wantTarget(30, mostLimit, 0, 100, api.OK)
		x.wantAmend(50, 9, 200, api.OK)
		for traded, want := range map[int]int{0: 0, 4: 1, 199: 49, 200: 50, 201: 50, 400: 50} {
			x.wantTarget(150, base+traded, 0, want, api.OK)
		}
	}
}

// P27.3: Flow at the ends of its rate and of what was traded.
func TestFlowAtTheEnds(t *testing.T) {
	a := newOrder(api.Flow)
	a.Qty = mostQty
	for rate, points := range map[int]map[int]int{
		1:        {0: 0, 9999: 0, 10000: 1, 19999: 1, 1 << 53: 900719925474, 10000<<40 - 1: mostQty - 1, 10000 << 40: mostQty, mostLimit - 1: mostQty, mostLimit: mostQty},
		mostRate: {0: 0, 1: 1, 2: 2, mostQty - 1: mostQty - 1, mostQty: mostQty, mostQty + 1: mostQty, mostLimit: mostQty},
		9999:     {0: 0, 1: 0, 2: 1, 10000: 9999, mostLimit: mostQty},
	} {
		a.Rate = rate
		x := newPair(t, a, 0)
		for traded, want := range points {
			x.wantTarget(20, traded, 0, want, api.OK)
		}
	}
}

// P27.3: Berg of 100 that shows 30, at each done, at any tick from Start on, whatever the market trades.
func TestBerg(t *testing.T) {
	x := newPair(t, newOrder(api.Berg), 10)
	for done := range 101 {
		want := min(done+30, 100)
		for _, now := range []int{20, 21, 59, 60, 61, mostTime} {
			for _, volume := range []int{10, 11, mostLimit} {
				x.wantTarget(now, volume, done, want, api.OK)
			}
		}
		for _, now := range []int{0, 19} {
			x.wantTarget(now, 10, done, 0, api.OK)
		}
	}
	x.wantAmend(40, 9, 200, api.OK)
	for done, want := range map[int]int{0: 30, 9: 39, 10: 40, 11: 40, 40: 40} {
		x.wantTarget(199, 10, done, want, api.OK)
	}
	x.wantAmend(mostQty, 9, 200, api.OK)
	for done, want := range map[int]int{0: 30, mostQty - 31: mostQty - 1, mostQty - 30: mostQty, mostQty - 29: mostQty, mostQty - 1: mostQty, mostQty: mostQty} {
		x.wantTarget(20, 10, done, want, api.OK)
	}
}

// P27.3: a tick that is none, of each algorithm, whatever else is.
func TestTicksRefused(t *testing.T) {
	eachOrder(t, func(t *testing.T, a api.Ask) {
		x := newPair(t, a, 10)
		for _, now := range append(outside(0, mostTime), -20, -60) {
			for _, volume := range []int{leastInt, 9, 10, 11, mostLimit, mostLimit + 1} {
				for _, done := range []int{-1, 0, 1, 100, 101} {
					x.wantNoTarget(now, volume, done)
				}
			}
		}
	})
}

// P27.3: a volume that is below what New was given, or above MaxLimit, of each algorithm, ahead of Start too.
func TestVolumesRefused(t *testing.T) {
	eachOrder(t, func(t *testing.T, a api.Ask) {
		for _, base := range []int{0, 1, 10, 1 << 40, mostLimit - 1, mostLimit} {
			x := newPair(t, a, base)
			for _, now := range []int{0, 19, 20, 21, 40, 59, 60, 61, mostTime} {
				for _, done := range []int{0, 50, 100} {
					for _, volume := range append(outside(base, mostLimit), base-2, base/2-1) {
						x.wantNoTarget(now, volume, done)
					}
					for _, volume := range []int{base, min(base+1, mostLimit), min(base+400, mostLimit), mostLimit - 1, mostLimit} {
						if volume >= base {
							x.target(now, volume, done)
						}
					}
				}
			}
		}
	})
}

// P27.3: a done that is none of the order's quantity, of each algorithm, ahead of Start too.
func TestDoneRefused(t *testing.T) {
	eachOrder(t, func(t *testing.T, a api.Ask) {
		for _, qty := range []int{1, 2, 100, mostQty - 1, mostQty} {
			a.Qty = qty
			x := newPair(t, a, 0)
			for _, now := range []int{0, 19, 20, 21, 40, 59, 60, 61, mostTime} {
				for _, done := range append(outside(0, qty), -2, mostQty+1) {
					x.wantNoTarget(now, 0, done)
					x.wantNoTarget(now, 400, done)
				}
				for _, done := range []int{0, 1, qty / 2, qty - 1, qty} {
					x.target(now, 0, done)
					x.target(now, 400, done)
				}
			}
		}
	})
}

// P27.3: done goes by the quantity as it is now: what was done may be too much of one that was amended, and the other way round.
func TestDoneOfAmendedQuantities(t *testing.T) {
	eachOrder(t, func(t *testing.T, a api.Ask) {
		x := newPair(t, a, 0)
		for _, now := range []int{0, 19, 20, 40, 60, 61} {
			x.wantAmend(100, 9, 60, api.OK)
			x.target(now, 0, 50)
			x.wantNoTarget(now, 0, 101)
			x.wantAmend(49, 9, 60, api.OK)
			x.wantNoTarget(now, 0, 50)
			x.target(now, 0, 49)
			x.wantAmend(50, 9, 60, api.OK)
			x.target(now, 0, 50)
			x.wantAmend(101, 9, 60, api.OK)
			x.target(now, 0, 101)
			x.wantNoTarget(now, 0, 102)
			// A refused one changes nothing of that.
			x.wantAmend(1000, 9, 20, api.ErrTime)
			x.wantNoTarget(now, 0, 102)
		}
	})
}

// P27.3: each of the ends that the chapter names with all others.
func TestTargetsAtTheEnds(t *testing.T) {
	eachOrder(t, func(t *testing.T, a api.Ask) {
		x := newPair(t, a, 10)
		for _, end := range []int{60, 21, 100} {
			x.wantAmend(100, 9, end, api.OK)
			for _, now := range []int{leastInt, -1, 0, 1, 19, 20, 21, 40, end - 1, end, end + 1, mostTime - 1, mostTime, mostTime + 1, greatestInt} {
				for _, volume := range []int{leastInt, -1, 0, 9, 10, 11, 110, 409, 410, 411, mostLimit, mostLimit + 1, greatestInt} {
					for _, done := range []int{leastInt, -1, 0, 1, 69, 70, 71, 99, 100, 101, mostQty, greatestInt} {
						x.target(now, volume, done)
					}
				}
			}
		}
	})
}

// P27.4: goals in numbers worked out by hand: with Twap a target of each number is to be had, as the order is of 100 in 100 ticks.
func TestGoal(t *testing.T) {
	a := newOrder(api.Twap)
	a.Start, a.End = 0, 100
	x := newPair(t, a, 0)
	for _, g := range []struct{ target, lot, want int }{
		{0, 1, 0}, {0, 10, 0}, {0, 100, 0}, {0, 101, 0}, {0, greatestInt, 0},
		{1, 1, 1}, {1, 2, 2}, {1, 10, 10}, {1, 99, 99}, {1, 100, 100}, {1, 101, 100}, {1, greatestInt, 100},
		{9, 10, 10}, {10, 10, 10}, {11, 10, 20}, {30, 10, 30}, {35, 10, 40}, {35, 7, 35}, {35, 8, 40}, {35, 35, 35}, {35, 36, 36}, {35, 34, 68},
		{98, 7, 98}, {99, 7, 100}, {100, 7, 100}, {91, 30, 100}, {90, 30, 90}, {89, 30, 90}, {50, 99, 99}, {99, 99, 99}, {100, 99, 100},
		{100, 1, 100}, {100, 100, 100}, {100, 101, 100}, {100, greatestInt, 100}, {99, 1, 99}, {50, 1 << 62, 100},
	} {
		x.wantGoal(g.target, 0, 0, g.lot, g.want, api.OK)
	}
	for target := range 101 {
		x.wantTarget(target, 0, 0, target, api.OK)
		for lot := 1; lot <= 110; lot++ {
			x.goal(target, 0, 0, lot)
		}
	}
}

// P27.4: goals go by the quantity as it is now.
func TestGoalsOfAmendedQuantities(t *testing.T) {
	eachOrder(t, func(t *testing.T, a api.Ask) {
		x := newPair(t, a, 0)
		for _, qty := range []int{1, 95, 100, 101, 1005, mostQty} {
			x.wantAmend(qty, 9, 60, api.OK)
			for _, now := range []int{0, 19, 20, 21, 40, 59, 60, 61} {
				for _, volume := range []int{0, 3, 4, 200, 395, 400, mostLimit} {
					for _, lot := range []int{leastInt, -1, 0, 1, 10, 25, 30, qty - 1, qty, qty + 1, mostQty, greatestInt} {
						x.goal(now, volume, 0, lot)
						x.goal(now, volume, qty/2, lot)
						x.goal(now, volume, qty, lot)
					}
				}
			}
		}
	})
}

// P27.4: a lot that may not be, of each algorithm, whether there is something to bring up or not.
func TestLotsRefused(t *testing.T) {
	eachOrder(t, func(t *testing.T, a api.Ask) {
		x := newPair(t, a, 10)
		for _, lot := range []int{0, -1, -2, -10, -100, -mostQty, -1 << 62, leastInt + 1, leastInt} {
			for _, now := range []int{0, 19, 20, 21, 40, 60, mostTime} {
				for _, done := range []int{0, 50, 100} {
					x.wantGoal(now, 10, done, lot, 0, api.ErrArg)
					x.wantGoal(now, 110, done, lot, 0, api.ErrArg)
					// Several errors at once.
					x.wantGoal(now, 9, done, lot, 0, api.ErrArg)
					x.wantGoal(now, 10, -1, lot, 0, api.ErrArg)
					x.wantGoal(-1, mostLimit+1, 101, lot, 0, api.ErrArg)
				}
			}
		}
		x.wantNoTarget(-1, 9, -1)
		x.wantNoTarget(mostTime+1, mostLimit+1, 101)
	})
}
