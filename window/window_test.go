package window_test

import (
	"runtime"
	"slices"
	"testing"

	"spigot/api"
	"spigot/window"
)

const (
	leastInt    = -1 << 63
	greatestInt = 1<<63 - 1
)

// plain is a window that keeps all that was ever taken, and counts it one by one.
type plain struct {
	width, most int
	taken       []int
}

func (p *plain) behind(now int) bool {
	return len(p.taken) > 0 && now < p.taken[len(p.taken)-1]
}

func (p *plain) fits(now int) bool {
	return now >= 0 && now <= api.MaxTime && !p.behind(now)
}

func (p *plain) count(now int) int {
	if p.behind(now) {
		return 0
	}
	n := 0
	for _, tick := range p.taken {
		if tick > now-p.width {
			n++
		}
	}
	return n
}

// free looks at each tick at which the count could fall, for one at which it is below most.
func (p *plain) free(now int) int {
	at := []int{now}
	for _, tick := range p.taken {
		if tick+p.width > now {
			at = append(at, tick+p.width)
		}
	}
	slices.Sort(at)
	for _, tick := range at {
		if p.count(tick) < p.most {
			return tick
		}
	}
	return -1
}

func (p *plain) take(now int) api.Errno {
	if !p.fits(now) {
		return api.ErrArg
	}
	if p.count(now) == p.most {
		return api.ErrRate
	}
	p.taken = append(p.taken, now)
	return api.OK
}

func newWindow(t *testing.T, width, most int) *window.Window {
	t.Helper()
	w, e := window.New(width, most)
	if w == nil || e != api.OK {
		t.Fatalf("New(%d, %d): %v, %d", width, most, w, e)
	}
	return w
}

// taken is a window in which one was taken at each of the ticks.
func taken(t *testing.T, width, most int, ticks ...int) *window.Window {
	t.Helper()
	w := newWindow(t, width, most)
	for _, tick := range ticks {
		wantTake(t, w, tick, api.OK)
	}
	return w
}

func wantTake(t *testing.T, w *window.Window, now int, e api.Errno) {
	t.Helper()
	if got := w.Take(now); got != e {
		t.Fatalf("Take(%d): %d; asked for: %d", now, got, e)
	}
}

func wantCount(t *testing.T, w *window.Window, now, n int) {
	t.Helper()
	if got := w.Count(now); got != n {
		t.Fatalf("Count(%d): %d; asked for: %d", now, got, n)
	}
}

func wantMay(t *testing.T, w *window.Window, now int, may bool) {
	t.Helper()
	if got := w.May(now); got != may {
		t.Fatalf("May(%d): %t; asked for: %t", now, got, may)
	}
}

func wantLast(t *testing.T, w *window.Window, last int, there bool) {
	t.Helper()
	if got, ok := w.Last(); got != last || ok != there {
		t.Fatalf("Last: %d, %t; asked for: %d, %t", got, ok, last, there)
	}
}

func wantFree(t *testing.T, w *window.Window, now, at int, e api.Errno) {
	t.Helper()
	if got, err := w.Free(now); got != at || err != e {
		t.Fatalf("Free(%d): %d, %d; asked for: %d, %d", now, got, err, at, e)
	}
}

// looksAt is ticks at which something may change: the ends of all ranges, and about each tick and the end of its stretch.
func looksAt(p *plain) []int {
	at := []int{leastInt, leastInt + 1, -api.MaxTime, -p.width, -1, 0, 1, p.width, api.MaxTime - 1, api.MaxTime, api.MaxTime + 1, greatestInt - 1, greatestInt}
	for _, tick := range p.taken {
		at = append(at, tick-1, tick, tick+1, tick+p.width-1, tick+p.width, tick+p.width+1)
	}
	return at
}

// wantAt holds all that a window tells of one tick against the plain one.
func wantAt(t *testing.T, w *window.Window, p *plain, now int) {
	t.Helper()
	wantCount(t, w, now, p.count(now))
	wantMay(t, w, now, p.fits(now) && p.count(now) < p.most)
	if !p.fits(now) {
		wantFree(t, w, now, 0, api.ErrArg)
		return
	}
	at := p.free(now)
	wantFree(t, w, now, at, api.OK)
	if at < now || at > now+p.width {
		t.Fatalf("Free(%d): %d, with the width %d", now, at, p.width)
	}
	wantMay(t, w, at, at <= api.MaxTime)
	if at > now {
		wantMay(t, w, at-1, false)
	}
}

// wantAll holds all that a window tells against the plain one, twice: the first look changes nothing.
func wantAll(t *testing.T, w *window.Window, p *plain) {
	t.Helper()
	for range 2 {
		if len(p.taken) == 0 {
			wantLast(t, w, 0, false)
		} else {
			wantLast(t, w, p.taken[len(p.taken)-1], true)
		}
		for _, now := range looksAt(p) {
			wantAt(t, w, p, now)
		}
	}
}

// wantBoth takes one of a window and of the plain one, if it may be.
func wantBoth(t *testing.T, w *window.Window, p *plain, now int) {
	t.Helper()
	wantTake(t, w, now, p.take(now))
}

// wantStretches looks at every stretch of the width, from the one that the first tick ends to the one that the last one begins.
func wantStretches(t *testing.T, p *plain) {
	t.Helper()
	if len(p.taken) == 0 {
		return
	}
	for begin := p.taken[0] - p.width + 1; begin <= p.taken[len(p.taken)-1]; begin++ {
		n := 0
		for _, tick := range p.taken {
			if tick >= begin && tick-begin < p.width {
				n++
			}
		}
		if n > p.most {
			t.Fatalf("%d are taken from %d on within %d ticks; at most: %d", n, begin, p.width, p.most)
		}
	}
}

// The chapter's examples.
func TestExamples(t *testing.T) {
	w := newWindow(t, 3, 2)
	wantTake(t, w, 5, api.OK)
	wantTake(t, w, 6, api.OK)
	wantTake(t, w, 7, api.ErrRate)
	wantFree(t, w, 7, 8, api.OK)
	wantTake(t, w, 8, api.OK)
	wantLast(t, w, 8, true)
	wantCount(t, w, 8, 2)
}

// P6.1: what New refuses, one argument being wrong, or both.
func TestNewRefuses(t *testing.T) {
	widths := []int{leastInt, leastInt + 1, -api.MaxSpan, -2, -1, 0, api.MaxSpan + 1, api.MaxSpan + 2, 1<<32 + 1, api.MaxTime, greatestInt}
	mosts := []int{leastInt, leastInt + 1, -api.MaxWindow, -2, -1, 0, api.MaxWindow + 1, api.MaxWindow + 2, 1<<32 + 1, greatestInt}
	refused := func(width, most int) {
		t.Helper()
		if w, e := window.New(width, most); w != nil || e != api.ErrArg {
			t.Errorf("New(%d, %d): %v, %d", width, most, w, e)
		}
	}
	for _, width := range widths {
		for _, most := range []int{1, 2, api.MaxWindow} {
			refused(width, most)
		}
		for _, most := range mosts {
			refused(width, most)
		}
	}
	for _, most := range mosts {
		for _, width := range []int{1, 2, api.MaxWindow + 1, api.MaxSpan} {
			refused(width, most)
		}
	}
}

// P6.1 to P6.4: of a new window, in which nothing was taken, one less than most is taken, and most, at one tick.
func TestNew(t *testing.T) {
	for _, width := range []int{1, 2, 3, api.MaxWindow + 1, api.MaxSpan - 1, api.MaxSpan} {
		for _, most := range []int{1, 2, 3, api.MaxWindow - 1, api.MaxWindow} {
			w := newWindow(t, width, most)
			wantAll(t, w, &plain{width: width, most: most})
			for n := range most {
				wantCount(t, w, 7, n)
				wantMay(t, w, 7, true)
				wantFree(t, w, 7, 7, api.OK)
				wantTake(t, w, 7, api.OK)
				wantLast(t, w, 7, true)
			}
			for range 2 {
				wantTake(t, w, 7, api.ErrRate)
				wantCount(t, w, 7, most)
				wantMay(t, w, 7, false)
				wantFree(t, w, 7, 7+width, api.OK)
				wantCount(t, w, 7+width-1, most)
				wantMay(t, w, 7+width-1, false)
				wantTake(t, w, 7+width-1, api.ErrRate)
				wantCount(t, w, 7+width, 0)
				wantMay(t, w, 7+width, true)
				wantLast(t, w, 7, true)
			}
			wantTake(t, w, 7+width, api.OK)
			wantCount(t, w, 7+width, 1)
			wantLast(t, w, 7+width, true)
		}
	}
}

// Rules 1 and 2, and what the chapter says of a window that is nil, or that New did not make, whatever the tick.
func TestNotMade(t *testing.T) {
	for _, w := range []*window.Window{nil, {}, new(window.Window)} {
		for _, now := range []int{leastInt, -1, 0, 1, 5, api.MaxTime, api.MaxTime + 1, greatestInt} {
			wantTake(t, w, now, api.ErrNil)
			wantFree(t, w, now, 0, api.ErrNil)
			wantCount(t, w, now, 0)
			wantMay(t, w, now, false)
			wantLast(t, w, 0, false)
		}
	}
}

// P6.2: the count just at now - width, one tick above it and one below.
func TestCount(t *testing.T) {
	for _, width := range []int{1, 2, 3, 10, api.MaxSpan} {
		w := taken(t, width, 9, 20, 20, 20)
		for _, now := range []int{leastInt, -1, 0, 19} {
			wantCount(t, w, now, 0)
		}
		for _, now := range []int{20, 20 + width - 1} {
			wantCount(t, w, now, 3)
		}
		for _, now := range []int{20 + width, 20 + width + 1, api.MaxTime, api.MaxTime + 1, greatestInt - 1, greatestInt} {
			wantCount(t, w, now, 0)
		}
	}
	w := taken(t, 4, 9, 10, 11, 11, 13)
	for i, n := range []int{0, 0, 0, 4, 3, 1, 1, 0} { // from 10 on
		wantCount(t, w, 10+i, n)
	}
}

// P6.2: past MaxTime there is still a count, but none may be taken.
func TestCountPastMaxTime(t *testing.T) {
	w := taken(t, 3, 5, api.MaxTime-1, api.MaxTime)
	wantCount(t, w, api.MaxTime-1, 0)
	wantCount(t, w, api.MaxTime, 2)
	wantCount(t, w, api.MaxTime+1, 2)
	wantCount(t, w, api.MaxTime+2, 1)
	wantCount(t, w, api.MaxTime+3, 0)
	wantMay(t, w, api.MaxTime, true)
	wantMay(t, w, api.MaxTime+1, false)
	wantMay(t, w, api.MaxTime+3, false)
}

// P6.2, P6.3: ticks out of their range, in a window in which nothing was taken, and in one in which something was.
func TestTicksOutOfRange(t *testing.T) {
	out := []int{leastInt, leastInt + 1, -api.MaxTime, -2, -1, api.MaxTime + 1, api.MaxTime + 2, 1<<62 + 1, greatestInt - 1, greatestInt}
	for _, p := range []*plain{{3, 2, nil}, {3, 2, []int{0}}, {1, 1, []int{4}}, {api.MaxSpan, 1, []int{api.MaxTime}}} {
		w := taken(t, p.width, p.most, p.taken...)
		for _, now := range out {
			wantTake(t, w, now, api.ErrArg)
			wantFree(t, w, now, 0, api.ErrArg)
			wantMay(t, w, now, false)
			wantAll(t, w, p)
		}
	}
	for _, now := range []int{0, 1, api.MaxTime - 1, api.MaxTime} {
		w := newWindow(t, 3, 1)
		wantMay(t, w, now, true)
		wantFree(t, w, now, now, api.OK)
		wantTake(t, w, now, api.OK)
		wantLast(t, w, now, true)
	}
}

// P6.3: a tick below the last one, that one itself, and the next.
func TestTicksAboutTheLast(t *testing.T) {
	for _, last := range []int{0, 1, 5, api.MaxSpan, api.MaxTime - 1} {
		w := taken(t, 2, 3, last)
		wantMay(t, w, last-1, false)
		wantTake(t, w, last-1, api.ErrArg)
		wantFree(t, w, last-1, 0, api.ErrArg)
		wantCount(t, w, last-1, 0)
		wantMay(t, w, last, true)
		wantTake(t, w, last, api.OK)
		wantLast(t, w, last, true)
		wantMay(t, w, last+1, true)
		wantTake(t, w, last+1, api.OK)
		wantLast(t, w, last+1, true)
		wantTake(t, w, last, api.ErrArg)
		wantCount(t, w, last, 0)
		wantCount(t, w, last+1, 3)
	}
}

// P6.3: that a tick may not be is told ahead of that there are too many.
func TestFirstError(t *testing.T) {
	w := taken(t, api.MaxSpan, 2, api.MaxTime-5, api.MaxTime-5)
	for _, now := range []int{leastInt, -1, 0, api.MaxTime - 6, api.MaxTime + 1, greatestInt} {
		wantTake(t, w, now, api.ErrArg)
		wantFree(t, w, now, 0, api.ErrArg)
	}
	wantTake(t, w, api.MaxTime-5, api.ErrRate)
	wantTake(t, w, api.MaxTime, api.ErrRate)
}

// P6.3: Last is the last one that was taken, not the last one that was asked for; the tick 0 is one.
func TestLast(t *testing.T) {
	w := newWindow(t, 5, 2)
	wantLast(t, w, 0, false)
	wantTake(t, w, -1, api.ErrArg)
	wantLast(t, w, 0, false)
	wantTake(t, w, 0, api.OK)
	wantLast(t, w, 0, true)
	wantTake(t, w, 2, api.OK)
	wantTake(t, w, 4, api.ErrRate)
	wantTake(t, w, 1, api.ErrArg)
	wantLast(t, w, 2, true)
	wantTake(t, w, api.MaxTime, api.OK)
	wantLast(t, w, api.MaxTime, true)
	wantCount(t, w, api.MaxTime, 1)
}

// P6.2 to P6.4: what is only asked for at a late tick, or refused there, doesn't hide what an earlier one counts.
func TestLooksAreNoTakes(t *testing.T) {
	p := &plain{10, 3, []int{5, 6, 6}}
	looks := []func(*window.Window, int){
		func(w *window.Window, now int) { w.Count(now) },
		func(w *window.Window, now int) { w.May(now) },
		func(w *window.Window, now int) { w.Free(now) },
		func(w *window.Window, _ int) { w.Last() },
	}
	for _, look := range looks {
		w := taken(t, p.width, p.most, p.taken...)
		for _, now := range []int{leastInt, 0, 5, 6, 7, 14, 15, 16, 99, api.MaxTime, greatestInt} {
			look(w, now)
			wantAll(t, w, p)
		}
		wantTake(t, w, 7, api.ErrRate)
		wantTake(t, w, 15, api.OK)
	}
}

// P6.3: a Take that is refused changes nothing, whichever the error.
func TestRefusedChangesNothing(t *testing.T) {
	p := &plain{10, 3, []int{1, 5, 6, 14}}
	w := taken(t, p.width, p.most, p.taken...)
	for range 3 {
		for _, now := range []int{leastInt, -1, 0, 13, api.MaxTime + 1, greatestInt} {
			wantTake(t, w, now, api.ErrArg)
			wantAll(t, w, p)
		}
		wantTake(t, w, 14, api.ErrRate)
		wantAll(t, w, p)
	}
	wantTake(t, w, 15, api.OK)
	wantTake(t, w, 15, api.ErrRate)
	wantTake(t, w, 16, api.OK)
}

// P6.4: at once, waited for, and with several at one tick.
func TestFree(t *testing.T) {
	w := taken(t, 10, 3, 20, 20)
	wantFree(t, w, 20, 20, api.OK)
	wantFree(t, w, 29, 29, api.OK)
	wantTake(t, w, 24, api.OK)
	wantFree(t, w, 23, 0, api.ErrArg)
	for now := 24; now < 30; now++ {
		wantFree(t, w, now, 30, api.OK)
	}
	for _, now := range []int{30, 31, 33, 34, 99, api.MaxTime} {
		wantFree(t, w, now, now, api.OK)
	}
	wantTake(t, w, 29, api.ErrRate)
	wantTake(t, w, 30, api.OK)
	wantFree(t, w, 30, 30, api.OK)
	wantTake(t, w, 30, api.OK)
	wantFree(t, w, 30, 34, api.OK)
	wantTake(t, w, 34, api.OK)
	wantFree(t, w, 34, 40, api.OK)
}

// P6.4 near MaxTime: the last tick that may be, and where there is none left the one at which the count would fall.
func TestFreeNearMaxTime(t *testing.T) {
	w := taken(t, 3, 1, api.MaxTime-3)
	wantFree(t, w, api.MaxTime-3, api.MaxTime, api.OK)
	wantFree(t, w, api.MaxTime-1, api.MaxTime, api.OK)
	wantFree(t, w, api.MaxTime, api.MaxTime, api.OK)
	wantTake(t, w, api.MaxTime-1, api.ErrRate)
	wantTake(t, w, api.MaxTime, api.OK)
	wantFree(t, w, api.MaxTime, api.MaxTime+3, api.OK)
	wantMay(t, w, api.MaxTime+3, false)
	wantTake(t, w, api.MaxTime+3, api.ErrArg)
	wantFree(t, w, api.MaxTime+1, 0, api.ErrArg)

	w = taken(t, api.MaxSpan, 2, api.MaxTime-1, api.MaxTime)
	wantFree(t, w, api.MaxTime, api.MaxTime-1+api.MaxSpan, api.OK)
	w = taken(t, api.MaxSpan, 2, 0, 5)
	wantFree(t, w, 5, api.MaxSpan, api.OK)
	wantFree(t, w, api.MaxTime, api.MaxTime, api.OK)
}

// Two windows have nothing to do with each other.
func TestTwoWindows(t *testing.T) {
	p, q := &plain{3, 2, []int{5, 6}}, &plain{3, 2, []int{9}}
	v, w := taken(t, 3, 2, p.taken...), taken(t, 3, 2, q.taken...)
	wantAll(t, v, p)
	wantAll(t, w, q)
	wantBoth(t, w, q, 10)
	wantBoth(t, v, p, 8)
	wantAll(t, v, p)
	wantAll(t, w, q)
}

// P6.2 to P6.5: all rows of a few ticks, in all small windows.
func TestAllRows(t *testing.T) {
	for width := 1; width <= 4; width++ {
		for most := 1; most <= 3; most++ {
			for row := range 1 << 10 { // 5 steps of 0 to 3 ticks
				w, p := newWindow(t, width, most), &plain{width: width, most: most}
				now := 0
				for i := range 5 {
					now += row >> (2 * i) & 3
					wantBoth(t, w, p, now)
				}
				wantAll(t, w, p)
				wantStretches(t, p)
			}
		}
	}
}

// P6.5: one who takes whenever it may be, several times at each tick, gets most in each stretch, and never one more.
func TestTakesAll(t *testing.T) {
	for width := 1; width <= 12; width++ {
		for most := 1; most <= 12; most++ {
			w, p := newWindow(t, width, most), &plain{width: width, most: most}
			for now := range 5 * width {
				for range 1 + now%3 {
					wantBoth(t, w, p, now)
				}
				wantAt(t, w, p, now)
			}
			wantStretches(t, p)
			wantAll(t, w, p)
		}
	}
}

// P6.2 to P6.5: a long run in a mixed order, the same one each time, held against a plain count over all that was taken.
func TestMixed(t *testing.T) {
	x := uint64(88172645463325252)
	next := func(n int) int {
		x ^= x << 13
		x ^= x >> 7
		x ^= x << 17
		return int(x>>1) % n
	}
	for _, width := range []int{1, 2, 3, 7, 20, 100, 1000} {
		for _, most := range []int{1, 2, 5, 30, 200} {
			w, p := newWindow(t, width, most), &plain{width: width, most: most}
			now, step := next(50), 2
			for i := range 1500 {
				if i%100 == 0 {
					step = 1 + next(1+3*width/most) // so that it is full at some times, and empty at others
				}
				now += next(step + 1)
				wantBoth(t, w, p, now)
				wantAt(t, w, p, now)
				wantAt(t, w, p, now-next(3))
				wantAt(t, w, p, now+next(2*width))
				wantBoth(t, w, p, now-next(3))
				if next(40) == 0 {
					now, _ = w.Free(now)
				}
				if next(200) == 0 {
					now += 2 * width
				}
			}
			wantAll(t, w, p)
			wantStretches(t, p)
		}
	}
}

// P6.5: in the widest window, and in the one for most, through many stretches.
func TestGreatWindows(t *testing.T) {
	for _, width := range []int{1, 2, api.MaxWindow, api.MaxSpan} {
		w, now := newWindow(t, width, api.MaxWindow), 3
		var all []int
		for i := range 5 * api.MaxWindow {
			at, e := w.Free(now)
			if e != api.OK || at < now || at > now+width {
				t.Fatalf("Free(%d): %d, %d", now, at, e)
			}
			wantTake(t, w, at, api.OK)
			all = append(all, at)
			now = at + i%2*(width/api.MaxWindow)
		}
		for i, tick := range all[api.MaxWindow:] {
			if tick-all[i] < width {
				t.Fatalf("%d are taken from %d to %d, with the width %d", api.MaxWindow+1, all[i], tick, width)
			}
		}
	}
}

// What is kept is no more than what may still count, however much was taken.
func TestKeepsNoMore(t *testing.T) {
	var before, behind runtime.MemStats
	for _, most := range []int{1, 3, api.MaxWindow} {
		w := newWindow(t, 2, most)
		runtime.ReadMemStats(&before)
		for i := range 1 << 17 {
			wantTake(t, w, i/most*2, api.OK)
		}
		runtime.ReadMemStats(&behind)
		if n := behind.TotalAlloc - before.TotalAlloc; n > 1<<18 {
			t.Errorf("of the most %d: %d bytes are asked for", most, n)
		}
	}
}
