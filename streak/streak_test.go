package streak_test

import (
	"slices"
	"testing"

	"spigot/api"
	"spigot/streak"
)

const (
	leastInt    = -1 << 63
	greatestInt = 1<<63 - 1
)

// fill is an execution: its venue, its quantity and its price.
type fill [3]int

// plain is a streak that keeps all that was noted since the last Clear, and counts it anew each time.
type plain struct {
	most  int
	noted []fill
}

// runAt is how many of the noted ones are the same in all three, from the one at the place back.
func (p *plain) runAt(place int) int {
	n := 0
	for i := place; i >= 0; i-- {
		for part := range 3 {
			if p.noted[i][part] != p.noted[place][part] {
				return n
			}
		}
		n++
	}
	return n
}

func (p *plain) count() int {
	if len(p.noted) == 0 {
		return 0
	}
	return p.runAt(len(p.noted) - 1)
}

func (p *plain) tripped() bool {
	for place := range p.noted {
		if p.runAt(place) >= p.most {
			return true
		}
	}
	return false
}

func newStreak(t *testing.T, most int) *streak.Streak {
	t.Helper()
	s, e := streak.New(most)
	if s == nil || e != api.OK {
		t.Fatalf("New(%d): %v, %d", most, s, e)
	}
	return s
}

// wantTold looks at what a streak tells, twice: the first look changes nothing.
func wantTold(t *testing.T, s *streak.Streak, count int, tripped bool) {
	t.Helper()
	for range 2 {
		if got := s.Count(); got != count {
			t.Fatalf("Count: %d; asked for: %d", got, count)
		}
		if got := s.Tripped(); got != tripped {
			t.Fatalf("Tripped: %t; asked for: %t", got, tripped)
		}
	}
}

// wantNote notes one, and looks at what Note answers and at what is told behind it.
func wantNote(t *testing.T, s *streak.Streak, x fill, count int, tripped bool) {
	t.Helper()
	if got := s.Note(x[0], x[1], x[2]); got != tripped {
		t.Fatalf("Note(%d, %d, %d): %t; asked for: %t", x[0], x[1], x[2], got, tripped)
	}
	wantTold(t, s, count, tripped)
}

// wantRun notes the same many times, of which the first one is the first of its run.
func wantRun(t *testing.T, s *streak.Streak, x fill, many, most int, tripped bool) {
	t.Helper()
	for n := 1; n <= many; n++ {
		wantNote(t, s, x, n, tripped || n >= most)
	}
}

// wantBoth notes one in a streak and in the plain one, and holds what they tell against each other.
func wantBoth(t *testing.T, s *streak.Streak, p *plain, x fill) {
	t.Helper()
	p.noted = append(p.noted, x)
	wantNote(t, s, x, p.count(), p.tripped())
}

// wantCleared clears both.
func wantCleared(t *testing.T, s *streak.Streak, p *plain) {
	t.Helper()
	p.noted = nil
	s.Clear()
	wantTold(t, s, 0, false)
}

// others is executions that are not the same as x: one part of it differs, or two are changed for each other, so that they are as much together.
func others(x fill) []fill {
	var list []fill
	for part := range 3 {
		for _, n := range []int{leastInt, leastInt + 1, -1, 0, 1, greatestInt - 1, greatestInt, x[part] ^ 1, x[part] ^ 1<<16, x[part] ^ 1<<32, x[part] ^ leastInt, -x[part]} {
			y := x
			y[part] = n
			list = append(list, y)
		}
		y, z := x, x
		next := (part + 1) % 3
		y[part], y[next] = x[next], x[part]
		z[part]++ // which wraps round at the greatest int
		z[next]--
		list = append(list, y, z)
	}
	return slices.DeleteFunc(list, func(y fill) bool { return y == x })
}

// The chapter's examples.
func TestExamples(t *testing.T) {
	s := newStreak(t, 3)
	wantNote(t, s, fill{1, 5, 9}, 1, false)
	wantNote(t, s, fill{1, 5, 9}, 2, false)
	wantNote(t, s, fill{1, 5, 9}, 3, true)
	wantNote(t, s, fill{1, 5, 8}, 1, true)
}

// P7.1: what New refuses.
func TestNewRefuses(t *testing.T) {
	for _, most := range []int{leastInt, leastInt + 1, leastInt + 2, -1 << 32, -api.MaxWindow, -3, -2, -1, 0, 1, api.MaxWindow + 1, api.MaxWindow + 2, 2 * api.MaxWindow, 1<<16 + 2, 1<<32 + 2, greatestInt - 1, greatestInt} {
		if s, e := streak.New(most); s != nil || e != api.ErrArg {
			t.Errorf("New(%d): %v, %d", most, s, e)
		}
	}
}

// P7.1, P7.2: a new streak has noted nothing; one less than most that are the same, most, and many more.
func TestNew(t *testing.T) {
	for most := 2; most <= api.MaxWindow; most++ {
		s := newStreak(t, most)
		wantTold(t, s, 0, false)
		if most < 20 || most%100 == 0 || most > api.MaxWindow-3 {
			wantRun(t, s, fill{1, 5, 9}, 2*most+1, most, false)
		}
	}
}

// P7.1, and rule 1: of a streak that is nil, or that New did not make, nothing is noted, however often and whatever it is.
func TestNotMade(t *testing.T) {
	for _, s := range []*streak.Streak{nil, {}, new(streak.Streak)} {
		wantTold(t, s, 0, false)
		for _, x := range []fill{{0, 0, 0}, {1, 5, 9}, {leastInt, leastInt, leastInt}, {greatestInt, greatestInt, greatestInt}} {
			for range 4 {
				wantNote(t, s, x, 0, false)
			}
			s.Clear()
			wantTold(t, s, 0, false)
			wantNote(t, s, x, 0, false)
		}
		if s != nil && *s != (streak.Streak{}) {
			t.Errorf("something is kept: %v", *s)
		}
	}
}

// P7.2: a first execution of noughts is noted like any other, also behind a Clear.
func TestNoughts(t *testing.T) {
	zero := fill{}
	for _, most := range []int{2, 3, api.MaxWindow} {
		s := newStreak(t, most)
		for range 3 {
			wantRun(t, s, zero, most+1, most, false)
			s.Clear()
			wantTold(t, s, 0, false)
			wantNote(t, s, zero, 1, false)
			wantNote(t, s, fill{1, 5, 9}, 1, false)
			wantNote(t, s, zero, 1, false)
			s.Clear()
		}
	}
}

// P7.2: executions that differ in one of the three alone, or only in their order, are not the same.
func TestOthers(t *testing.T) {
	for _, x := range []fill{{0, 0, 0}, {1, 5, 9}, {5, 5, 5}, {7, 1 << 40, 1 << 40}, {leastInt, leastInt, leastInt}, {greatestInt, greatestInt, greatestInt}, {leastInt, 0, greatestInt}, {greatestInt, leastInt, -1}} {
		for _, y := range others(x) {
			s := newStreak(t, 3)
			wantNote(t, s, x, 1, false)
			wantNote(t, s, y, 1, false)
			wantNote(t, s, x, 1, false)
			wantNote(t, s, x, 2, false)
			wantNote(t, s, y, 1, false)
			wantNote(t, s, y, 2, false)
			wantNote(t, s, x, 1, false)
			wantNote(t, s, y, 1, false)
			wantRun(t, s, x, 4, 3, false)
			wantNote(t, s, y, 1, true)
		}
	}
}

// P7.2: one less than most don't trip it, however many such runs there are: another one between them begins anew.
func TestOneLess(t *testing.T) {
	for _, most := range []int{2, 3, 4, 10, api.MaxWindow} {
		s := newStreak(t, most)
		for range 5 {
			wantRun(t, s, fill{1, 5, 9}, most-1, most, false)
			wantRun(t, s, fill{2, 5, 9}, most-1, most, false)
		}
		wantRun(t, s, fill{1, 5, 9}, most, most, false)
	}
}

// P7.2: that it is tripped stays so behind others, while the count begins anew.
func TestStaysTripped(t *testing.T) {
	for _, most := range []int{2, 3, 10, api.MaxWindow} {
		s := newStreak(t, most)
		wantRun(t, s, fill{1, 5, 9}, most, most, false)
		for price := range 20 {
			wantNote(t, s, fill{2, 5, price}, 1, true)
		}
		wantRun(t, s, fill{1, 5, 9}, most+1, most, true)
		wantNote(t, s, fill{0, 0, 0}, 1, true)
	}
}

// P7.2: Clear behind nothing, behind some, behind most, and behind others that came then; the same one is the first again.
func TestClear(t *testing.T) {
	x := fill{1, 5, 9}
	for _, most := range []int{2, 3, 4, api.MaxWindow} {
		for _, many := range []int{0, 1, most - 1, most, most + 1} {
			for _, other := range []int{0, 1, most - 1} {
				s := newStreak(t, most)
				for range 3 {
					wantRun(t, s, x, many, most, false)
					wantRun(t, s, fill{1, 5, 8}, other, most, many >= most)
					for range 2 {
						s.Clear()
						wantTold(t, s, 0, false)
					}
				}
				wantRun(t, s, x, most+1, most, false)
			}
		}
	}
}

// P7.2: each Clear counts, not only the first one: one less than most between any two of them never trips it.
func TestClearOften(t *testing.T) {
	for _, most := range []int{2, 3, 7} {
		s := newStreak(t, most)
		for range 50 {
			wantRun(t, s, fill{1, 5, 9}, most-1, most, false)
			s.Clear()
		}
		wantTold(t, s, 0, false)
	}
}

// P7.2: the count goes on past all limits.
func TestLongRun(t *testing.T) {
	for _, most := range []int{2, api.MaxWindow} {
		s := newStreak(t, most)
		wantRun(t, s, fill{1, 5, 9}, 1<<18, most, false)
		wantNote(t, s, fill{1, 6, 9}, 1, true)
	}
}

// Two streaks have nothing to do with each other.
func TestTwoStreaks(t *testing.T) {
	r, s := newStreak(t, 2), newStreak(t, 3)
	x := fill{1, 5, 9}
	wantNote(t, r, x, 1, false)
	wantNote(t, s, x, 1, false)
	wantNote(t, r, x, 2, true)
	wantTold(t, s, 1, false)
	wantNote(t, s, x, 2, false)
	wantNote(t, s, x, 3, true)
	r.Clear()
	wantTold(t, r, 0, false)
	wantTold(t, s, 3, true)
}

// P7.2: all rows of a few notes and Clears, of all small streaks.
func TestAllRows(t *testing.T) {
	all := []fill{{0, 0, 0}, {0, 0, 1}, {1, 0, 0}}
	for most := 2; most <= 4; most++ {
		for row := range 1 << 14 { // 7 steps: one of the three, or a Clear
			s, p := newStreak(t, most), &plain{most: most}
			for i := range 7 {
				if step := row >> (2 * i) & 3; step < len(all) {
					wantBoth(t, s, p, all[step])
				} else {
					wantCleared(t, s, p)
				}
			}
		}
	}
}

// P7.2: a long run in a mixed order, the same one each time, held against a plain count over all that was noted since the last Clear.
func TestMixed(t *testing.T) {
	x := uint64(88172645463325252)
	next := func(n int) int {
		x ^= x << 13
		x ^= x >> 7
		x ^= x << 17
		return int(x>>1) % n
	}
	numbers := []int{0, 1, -1, 7, 1 << 32, leastInt, greatestInt}
	for _, most := range []int{2, 3, 5, 8, 20, api.MaxWindow} {
		s, p := newStreak(t, most), &plain{most: most}
		at, trips := fill{}, 0
		for range 6000 {
			switch {
			case next(200) == 0:
				wantCleared(t, s, p)
				continue
			case next(1+most) == 0: // so that runs end about where it trips
				at[next(3)] = numbers[next(len(numbers))]
			}
			was := s.Tripped()
			wantBoth(t, s, p, at)
			if !was && s.Tripped() {
				trips++
			}
		}
		if most <= 20 && trips < 5 {
			t.Errorf("with a most of %d it tripped %d times: the run is too tame", most, trips)
		}
	}
}
