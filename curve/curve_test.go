package curve_test

import (
	"math/big"
	"slices"
	"testing"

	"spigot/api"
	"spigot/checked"
	"spigot/curve"
)

const (
	least = -1 << 63
	most  = 1<<63 - 1
)

// same is a list of n times one number.
func same(number, n int) []int {
	return slices.Repeat([]int{number}, n)
}

// put is a list with one of its numbers changed.
func put(list []int, place, number int) []int {
	list = slices.Clone(list)
	list[place] = number
	return list
}

// curves are good ones: of one bucket, of all, with noughts at either end and between, with the greatest weights.
func curves() [][]int {
	return [][]int{
		{1}, {api.MaxWeight}, {1, 3}, {1, 0, 3}, {0, 1}, {1, 0}, {0, 0, 7, 0, 0}, {2, 2, 2}, {1, 2, 3, 4, 5, 6, 7},
		{api.MaxWeight, 1}, {1, api.MaxWeight}, {api.MaxWeight, 0, api.MaxWeight - 1},
		same(1, api.MaxBuckets), same(api.MaxWeight, api.MaxBuckets), same(api.MaxWeight-1, api.MaxBuckets-1),
		put(same(0, api.MaxBuckets), api.MaxBuckets-1, 1), put(same(0, api.MaxBuckets), 0, api.MaxWeight),
	}
}

// others are lists that are no curves.
func others() [][]int {
	return [][]int{
		nil, {}, {0}, {0, 0}, same(0, api.MaxBuckets), same(0, api.MaxBuckets+1),
		same(1, api.MaxBuckets+1), same(api.MaxWeight, api.MaxBuckets+1), same(1, 5000),
		{-1}, {1, -1}, {-1, 1}, {-1, 2}, {5, -1, 5}, {api.MaxWeight + 1}, {1, api.MaxWeight + 1}, {api.MaxWeight + 1, 1},
		{least}, {most}, {1, least}, {1, most}, {most, most, 2}, {least, least, 1}, {least, least}, {most, -most}, {1, most, least + 1},
		put(same(1, api.MaxBuckets), api.MaxBuckets-1, -1), put(same(1, api.MaxBuckets), api.MaxBuckets-1, api.MaxWeight+1),
	}
}

// spans are such as leave buckets of whole ticks and of others, and such as have fewer ticks than there are buckets.
func spans() []int {
	return []int{1, 2, 3, 5, 7, 8, 10, 63, 64, 65, 1000, 1 << 20, 1<<30 - 1, api.MaxSpan}
}

func quantities() []int {
	return []int{0, 1, 2, 3, 10, 99, 1000003, api.MaxQty - 1, api.MaxQty}
}

// times are both ends of a span, and those beside the end of each bucket.
func times(span, buckets int) []int {
	list := []int{0, span}
	for i := range buckets + 1 {
		end := i * span / buckets
		list = append(list, max(end-1, 0), end, min(end+1, span))
	}
	slices.Sort(list)
	return slices.Compact(list)
}

// doneOf goes by the document's words: a bucket that has ended counts with its weight, the one that the time is in with the part of it that has gone by.
func doneOf(w []int, t, span int) *big.Rat {
	length := big.NewRat(int64(span), int64(len(w)))
	begin, sum := new(big.Rat), new(big.Rat)
	for _, weight := range w {
		gone := new(big.Rat).Sub(big.NewRat(int64(t), 1), begin)
		part := gone.Quo(gone, length)
		if part.Sign() < 0 {
			part = new(big.Rat)
		}
		if one := big.NewRat(1, 1); part.Cmp(one) > 0 {
			part = one
		}
		sum.Add(sum, part.Mul(part, big.NewRat(int64(weight), 1)))
		begin.Add(begin, length)
	}
	return sum
}

// cut is qty · part / total, down.
func cut(qty int, part *big.Rat, total int) int {
	r := new(big.Rat).Mul(part, big.NewRat(int64(qty), int64(total)))
	return int(new(big.Int).Div(r.Num(), r.Denom()).Int64())
}

func sumOf(w []int) int {
	n := 0
	for _, weight := range w {
		n += weight
	}
	return n
}

// P3.1.
func TestCheckAndTotal(t *testing.T) {
	for _, w := range curves() {
		if e := curve.Check(w); e != api.OK {
			t.Errorf("Check(%v): %d", w, e)
		}
		if n, e := curve.Total(w); n != sumOf(w) || e != api.OK {
			t.Errorf("Total(%v): %d, %d", w, n, e)
		}
	}
	for _, w := range others() {
		if e := curve.Check(w); e != api.ErrCurve {
			t.Errorf("Check(%v): %d", w, e)
		}
		if n, e := curve.Total(w); n != 0 || e != api.ErrCurve {
			t.Errorf("Total(%v): %d, %d", w, n, e)
		}
	}
}

// P3.1.
func TestTotalsByNumber(t *testing.T) {
	for _, c := range []struct {
		w []int
		n int
	}{
		{[]int{1, 3}, 4}, {[]int{0, 5, 0}, 5}, {[]int{api.MaxWeight}, 1 << 20},
		{same(api.MaxWeight, api.MaxBuckets), 1 << 26}, {same(1, api.MaxBuckets), 64},
	} {
		if n, e := curve.Total(c.w); n != c.n || e != api.OK {
			t.Errorf("Total(%v): %d, %d", c.w, n, e)
		}
	}
}

// P3.2.
func TestDone(t *testing.T) {
	full := same(api.MaxWeight, api.MaxBuckets)
	for _, c := range []struct {
		w       []int
		t, span int
		num     int
	}{
		{[]int{1, 3}, 0, 8, 0}, {[]int{1, 3}, 4, 8, 8}, {[]int{1, 3}, 6, 8, 20}, {[]int{1, 3}, 8, 8, 32},
		{[]int{1, 3}, 3, 8, 6}, {[]int{1, 3}, 5, 8, 14}, {[]int{1, 3}, 7, 8, 26},
		// Buckets of 3 and a half, of a half, of a third, of one.
		{[]int{1, 3}, 3, 7, 6}, {[]int{1, 3}, 4, 7, 10}, {[]int{1, 3}, 7, 7, 28}, {[]int{1, 3}, 0, 1, 0}, {[]int{1, 3}, 1, 1, 4},
		{[]int{1, 0, 3}, 1, 1, 4}, {[]int{1, 0, 3}, 1, 2, 2}, {[]int{4, 0, 3}, 1, 2, 8}, {[]int{1, 2, 3}, 1, 3, 3}, {[]int{1, 2, 3}, 2, 3, 9},
		{[]int{0, 1}, 4, 8, 0}, {[]int{0, 1}, 5, 8, 2}, {[]int{1, 0}, 4, 8, 8}, {[]int{1, 0}, 8, 8, 8}, {[]int{5}, 2, 3, 10},
		{full, 0, api.MaxSpan, 0}, {full, 1, api.MaxSpan, 1 << 26}, {full, api.MaxSpan, api.MaxSpan, 1 << 56}, {full, 1, 2, 1 << 26},
		{[]int{1}, api.MaxSpan - 1, api.MaxSpan, api.MaxSpan - 1},
	} {
		if num, den, e := curve.Done(c.w, c.t, c.span); num != c.num || den != c.span || e != api.OK {
			t.Errorf("Done(%v, %d, %d): %d, %d, %d; asked for: %d", c.w, c.t, c.span, num, den, e, c.num)
		}
	}
}

// P3.2.
func TestDoneExactly(t *testing.T) {
	for _, w := range curves() {
		for _, span := range spans() {
			for _, at := range times(span, len(w)) {
				num, den, e := curve.Done(w, at, span)
				if e != api.OK || den != span || big.NewRat(int64(num), int64(den)).Cmp(doneOf(w, at, span)) != 0 {
					t.Errorf("Done(%v, %d, %d): %d, %d, %d; asked for: %v", w, at, span, num, den, e, doneOf(w, at, span))
				}
			}
		}
	}
}

// wrongTimes are times and spans of which one may not be.
func wrongTimes() [][2]int {
	return [][2]int{
		{0, 0}, {1, 0}, {0, -1}, {-1, -1}, {0, api.MaxSpan + 1}, {api.MaxSpan + 1, api.MaxSpan + 1}, {0, least}, {0, most}, {most, most}, {least, least},
		{-1, 8}, {9, 8}, {-1, 1}, {2, 1}, {least, 8}, {most, 8}, {-1, api.MaxSpan}, {api.MaxSpan + 1, api.MaxSpan}, {most, api.MaxSpan}, {least, api.MaxSpan},
	}
}

// P3.2.
func TestDoneRefused(t *testing.T) {
	for _, c := range wrongTimes() {
		for _, w := range curves() {
			if num, den, e := curve.Done(w, c[0], c[1]); num != 0 || den != 0 || e != api.ErrArg {
				t.Errorf("Done(%v, %d, %d): %d, %d, %d", w, c[0], c[1], num, den, e)
			}
		}
	}
	for _, c := range append(wrongTimes(), [2]int{0, 1}, [2]int{4, 8}, [2]int{8, 8}, [2]int{0, api.MaxSpan}) {
		for _, w := range others() {
			if num, den, e := curve.Done(w, c[0], c[1]); num != 0 || den != 0 || e != api.ErrCurve {
				t.Errorf("Done(%v, %d, %d): %d, %d, %d", w, c[0], c[1], num, den, e)
			}
		}
	}
}

// P3.3.
func TestTarget(t *testing.T) {
	full := same(api.MaxWeight, api.MaxBuckets)
	for _, c := range []struct {
		qty     int
		w       []int
		t, span int
		n       int
	}{
		{10, []int{1, 3}, 0, 8, 0}, {10, []int{1, 3}, 4, 8, 2}, {10, []int{1, 3}, 6, 8, 6}, {10, []int{1, 3}, 8, 8, 10},
		{10, []int{1, 3}, 5, 8, 4}, {10, []int{1, 3}, 7, 8, 8}, {0, []int{1, 3}, 8, 8, 0}, {1, []int{1, 3}, 7, 8, 0}, {1, []int{1, 3}, 8, 8, 1},
		{10, []int{0, 1}, 4, 8, 0}, {10, []int{1, 0}, 4, 8, 10}, {10, []int{7}, 1, 3, 3}, {10, []int{7}, 2, 3, 6},
		{api.MaxQty, full, 1, api.MaxSpan, 1 << 10}, {api.MaxQty, full, api.MaxSpan - 1, api.MaxSpan, 1<<40 - 1<<10}, {api.MaxQty, full, api.MaxSpan, api.MaxSpan, api.MaxQty},
		{1, full, api.MaxSpan - 1, api.MaxSpan, 0}, {1, full, api.MaxSpan, api.MaxSpan, 1}, {api.MaxQty, []int{1}, 1, api.MaxSpan - 1, 1024},
	} {
		if n, e := curve.Target(c.qty, c.w, c.t, c.span); n != c.n || e != api.OK {
			t.Errorf("Target(%d, %v, %d, %d): %d, %d; asked for: %d", c.qty, c.w, c.t, c.span, n, e, c.n)
		}
	}
}

// P3.3.
func TestTargetExactly(t *testing.T) {
	for _, w := range curves() {
		for _, span := range spans() {
			for _, at := range times(span, len(w)) {
				done := doneOf(w, at, span)
				for _, qty := range quantities() {
					want := cut(qty, done, sumOf(w))
					if n, e := curve.Target(qty, w, at, span); n != want || e != api.OK {
						t.Errorf("Target(%d, %v, %d, %d): %d, %d; asked for: %d", qty, w, at, span, n, e, want)
					}
				}
			}
		}
	}
}

func wrongQuantities() []int {
	return []int{-1, api.MaxQty + 1, -api.MaxQty, least, most}
}

// P3.3: a curve is looked at ahead of all else; then whatever may not be is told the same.
func TestTargetRefused(t *testing.T) {
	look := func(qty int, w []int, at, span int, want api.Errno) {
		t.Helper()
		if n, e := curve.Target(qty, w, at, span); n != 0 || e != want {
			t.Errorf("Target(%d, %v, %d, %d): %d, %d; asked for: %d", qty, w, at, span, n, e, want)
		}
	}
	for _, qty := range slices.Concat(quantities(), wrongQuantities()) {
		for _, c := range wrongTimes() {
			look(qty, []int{1, 3}, c[0], c[1], api.ErrArg)
			look(qty, []int{0, 0}, c[0], c[1], api.ErrCurve)
		}
		for _, w := range others() {
			look(qty, w, 4, 8, api.ErrCurve)
		}
	}
	for _, qty := range wrongQuantities() {
		for _, w := range curves() {
			look(qty, w, 0, 8, api.ErrArg)
			look(qty, w, 8, 8, api.ErrArg)
		}
	}
}

// P3.4.
func TestSpread(t *testing.T) {
	for _, c := range []struct {
		qty   int
		w     []int
		parts []int
	}{
		{10, []int{1, 3}, []int{2, 8}}, {10, []int{1, 0, 3}, []int{2, 0, 8}}, {10, []int{3, 1}, []int{7, 3}}, {10, []int{7}, []int{10}},
		{0, []int{1, 3}, []int{0, 0}}, {1, []int{1, 1, 1}, []int{0, 0, 1}}, {2, []int{1, 1, 1}, []int{0, 1, 1}}, {5, []int{1, 1, 1}, []int{1, 2, 2}},
		{10, []int{0, 1}, []int{0, 10}}, {10, []int{1, 0}, []int{10, 0}}, {1, []int{1, 0, 0}, []int{1, 0, 0}},
		{api.MaxQty, []int{1, 1}, []int{1 << 39, 1 << 39}}, {api.MaxQty, []int{api.MaxWeight, api.MaxWeight}, []int{1 << 39, 1 << 39}},
		{api.MaxQty, same(api.MaxWeight, api.MaxBuckets), same(1<<34, api.MaxBuckets)},
		{1, same(1, api.MaxBuckets), put(same(0, api.MaxBuckets), api.MaxBuckets-1, 1)},
	} {
		if parts, e := curve.Spread(c.qty, c.w); !slices.Equal(parts, c.parts) || e != api.OK {
			t.Errorf("Spread(%d, %v): %v, %d; asked for: %v", c.qty, c.w, parts, e, c.parts)
		}
	}
}

// P3.4: over as many ticks as there are buckets, what is done at a tick is the sum of the weights up to it.
func TestSpreadExactly(t *testing.T) {
	for _, w := range curves() {
		for _, qty := range quantities() {
			parts, e := curve.Spread(qty, w)
			if e != api.OK || len(parts) != len(w) {
				t.Fatalf("Spread(%d, %v): %v, %d", qty, w, parts, e)
			}
			for i, part := range parts {
				through := cut(qty, doneOf(w, i+1, len(w)), sumOf(w))
				ahead := cut(qty, doneOf(w, i, len(w)), sumOf(w))
				if part != through-ahead {
					t.Errorf("Spread(%d, %v): %v; asked for at %d: %d", qty, w, parts, i, through-ahead)
				}
			}
		}
	}
}

// P3.4.
func TestSpreadRefused(t *testing.T) {
	for _, w := range others() {
		for _, qty := range slices.Concat(quantities(), wrongQuantities()) {
			if parts, e := curve.Spread(qty, w); len(parts) != 0 || e != api.ErrCurve {
				t.Errorf("Spread(%d, %v): %v, %d", qty, w, parts, e)
			}
		}
	}
	for _, w := range curves() {
		for _, qty := range wrongQuantities() {
			if parts, e := curve.Spread(qty, w); len(parts) != 0 || e != api.ErrArg {
				t.Errorf("Spread(%d, %v): %v, %d", qty, w, parts, e)
			}
		}
	}
}

// P3.5.
func TestTargetsNeverFall(t *testing.T) {
	for _, w := range curves() {
		for _, span := range spans() {
			for _, qty := range quantities() {
				last := 0
				for _, at := range times(span, len(w)) {
					n, e := curve.Target(qty, w, at, span)
					if e != api.OK || n < last || at == 0 && n != 0 || at == span && n != qty {
						t.Errorf("Target(%d, %v, %d, %d): %d, %d, behind %d", qty, w, at, span, n, e, last)
					}
					last = n
				}
			}
		}
	}
}

// P3.5: at each tick, not only beside the ends of buckets.
func TestTargetsTickByTick(t *testing.T) {
	for _, w := range curves() {
		for _, span := range []int{1, 2, 7, 63, 64, 65, 200} {
			last := 0
			for at := range span + 1 {
				n, e := curve.Target(1000003, w, at, span)
				if want := cut(1000003, doneOf(w, at, span), sumOf(w)); e != api.OK || n != want || n < last {
					t.Errorf("Target(1000003, %v, %d, %d): %d, %d, behind %d; asked for: %d", w, at, span, n, e, last, want)
				}
				last = n
			}
			if last != 1000003 {
				t.Errorf("%v over %d: %d at its end", w, span, last)
			}
		}
	}
}

// P3.5.
func TestSpreadsAreWhole(t *testing.T) {
	for _, w := range curves() {
		for _, qty := range quantities() {
			parts, e := curve.Spread(qty, w)
			if sum, _ := checked.Sum(parts); e != api.OK || sum != qty || slices.Min(parts) < 0 {
				t.Errorf("Spread(%d, %v): %v, %d", qty, w, parts, e)
			}
		}
	}
}

// P3.1 to P3.5, of weights, times and quantities of all lengths.
func TestMixedExactly(t *testing.T) {
	x := uint64(88172645463325252)
	// next is a number from 0 to top, of any length as often as of any other.
	next := func(top int) int {
		x ^= x << 13
		x ^= x >> 7
		x ^= x << 17
		return int(x>>1>>(x%63)) % (top + 1)
	}
	for range 5000 {
		w := make([]int, 1+next(api.MaxBuckets-1))
		for i := range w {
			w[i] = next(api.MaxWeight)
		}
		w[next(len(w)-1)] = 1 + next(api.MaxWeight-1)
		span := 1 + next(api.MaxSpan-1)
		at, qty := next(span), next(api.MaxQty)
		done := doneOf(w, at, span)
		if num, den, e := curve.Done(w, at, span); e != api.OK || den != span || big.NewRat(int64(num), int64(den)).Cmp(done) != 0 {
			t.Errorf("Done(%v, %d, %d): %d, %d, %d; asked for: %v", w, at, span, num, den, e, done)
		}
		if n, e := curve.Target(qty, w, at, span); n != cut(qty, done, sumOf(w)) || e != api.OK {
			t.Errorf("Target(%d, %v, %d, %d): %d, %d", qty, w, at, span, n, e)
		}
		parts, e := curve.Spread(qty, w)
		if sum, _ := checked.Sum(parts); e != api.OK || len(parts) != len(w) || sum != qty || slices.Min(parts) < 0 {
			t.Errorf("Spread(%d, %v): %v, %d", qty, w, parts, e)
		}
	}
}

// The rule that what is handed in is neither changed nor kept, and that what lies behind a list's length is not read.
func TestListsAreLeftAlone(t *testing.T) {
	room := []int{9, 1, 3, -7, -8}
	w := room[1:3]
	parts, _ := curve.Spread(10, w)
	curve.Done(w, 6, 8)
	curve.Total(w)
	if n, e := curve.Target(10, w, 6, 8); n != 6 || e != api.OK {
		t.Errorf("%d, %d", n, e)
	}
	if !slices.Equal(room, []int{9, 1, 3, -7, -8}) {
		t.Errorf("changed: %v", room)
	}
	w[0], w[1] = 3, 1
	if again, _ := curve.Spread(10, w); !slices.Equal(parts, []int{2, 8}) || !slices.Equal(again, []int{7, 3}) {
		t.Errorf("kept from the call ahead: %v, %v", parts, again)
	}
	for i := range parts {
		parts[i] = -1
	}
	if again, _ := curve.Spread(10, w); !slices.Equal(again, []int{7, 3}) || !slices.Equal(w, []int{3, 1}) {
		t.Errorf("an answer is shared: %v, %v", again, w)
	}
}
