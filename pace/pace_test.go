package pace_test

import (
	"math/big"
	"slices"
	"testing"

	"spigot/api"
	"spigot/pace"
)

const (
	leastInt    = -1 << 63
	greatestInt = 1<<63 - 1
)

// plainEnds is what P24.1 says of what both paces are handed.
func plainEnds(qty, start, end, now int) api.Errno {
	for _, n := range []int{qty, start, end, now} {
		if n < 0 || n > 1<<40 {
			return api.ErrArg
		}
	}
	if end <= start || end > start+1<<30 {
		return api.ErrTime
	}
	return api.OK
}

// plainShare is qty · part / all, down, in numbers that have room for any product.
func plainShare(qty, part, all int) int {
	n := big.NewInt(int64(qty))
	n.Mul(n, big.NewInt(int64(part)))
	return int(n.Quo(n, big.NewInt(int64(all))).Int64())
}

// plainTwap is what P24.1 says.
func plainTwap(qty, start, end, now int) (int, api.Errno) {
	e := plainEnds(qty, start, end, now)
	switch {
	case e != api.OK:
		return 0, e
	case now <= start:
		return 0, api.OK
	case now >= end:
		return qty, api.OK
	}
	return plainShare(qty, now-start, end-start), api.OK
}

func isCurve(w []int) bool {
	if len(w) < 1 || len(w) > 64 {
		return false
	}
	some := false
	for _, n := range w {
		if n < 0 || n > 1<<20 {
			return false
		}
		some = some || n > 0
	}
	return some
}

// plainDone is what is done of a curve, times span: in ticks cut into as many pieces as there are buckets, bucket i is from i · span to (i + 1) · span.
func plainDone(w []int, t, span int) int {
	done := 0
	for i, weight := range w {
		gone := t*len(w) - i*span
		switch {
		case gone >= span:
			done += weight * span
		case gone > 0:
			done += weight * gone
		}
	}
	return done
}

// plainVwap is what P24.2 says.
func plainVwap(qty int, w []int, start, end, now int) (int, api.Errno) {
	e := plainEnds(qty, start, end, now)
	switch {
	case e != api.OK:
		return 0, e
	case !isCurve(w):
		return 0, api.ErrCurve
	case now <= start:
		return 0, api.OK
	case now >= end:
		return qty, api.OK
	}
	total := 0
	for _, weight := range w {
		total += weight
	}
	return plainShare(qty, plainDone(w, now-start, end-start), total*(end-start)), api.OK
}

// plainGoal is what P24.3 says; the number on the lot is below 2^64, for which big numbers have room.
func plainGoal(target, lot, qty int) (int, api.Errno) {
	if lot < 1 || qty < 0 || qty > 1<<40 || target < 0 || target > qty {
		return 0, api.ErrArg
	}
	up, step := big.NewInt(int64(target)), big.NewInt(int64(lot))
	rest := new(big.Int).Mod(up, step)
	if rest.Sign() > 0 {
		up.Add(up, step).Sub(up, rest)
	}
	if up.Cmp(big.NewInt(int64(qty))) > 0 {
		return qty, api.OK
	}
	return int(up.Int64()), api.OK
}

func wantTwap(t *testing.T, qty, start, end, now, want int, e api.Errno) {
	t.Helper()
	if n, got := pace.Twap(qty, start, end, now); n != want || got != e {
		t.Errorf("Twap(%d, %d, %d, %d): %d, %d; the document asks for %d, %d", qty, start, end, now, n, got, want, e)
	}
}

// wantVwap looks besides whether the weights, and what lies behind them, are as they were.
func wantVwap(t *testing.T, qty int, w []int, start, end, now, want int, e api.Errno) {
	t.Helper()
	room := append(slices.Clone(w), 77, 0, -1)
	before := slices.Clone(room)
	if n, got := pace.Vwap(qty, room[:len(w)], start, end, now); n != want || got != e {
		t.Errorf("Vwap(%d, %v, %d, %d, %d): %d, %d; the document asks for %d, %d", qty, w, start, end, now, n, got, want, e)
	}
	if !slices.Equal(room, before) {
		t.Errorf("Vwap(%d, %v, %d, %d, %d) has made %v of the weights and what is behind them", qty, w, start, end, now, room)
	}
}

// wantBoth asks for what is the same of either pace, of each curve: an error, or what is out at the ends and beyond them.
func wantBoth(t *testing.T, qty, start, end, now, want int, e api.Errno) {
	t.Helper()
	wantTwap(t, qty, start, end, now, want, e)
	for _, w := range goodCurves() {
		wantVwap(t, qty, w, start, end, now, want, e)
	}
}

func wantGoal(t *testing.T, target, lot, qty, want int, e api.Errno) {
	t.Helper()
	if n, got := pace.Goal(target, lot, qty); n != want || got != e {
		t.Errorf("Goal(%d, %d, %d): %d, %d; the document asks for %d, %d", target, lot, qty, n, got, want, e)
	}
}

// same is a list of n times one number.
func same(number, n int) []int {
	return slices.Repeat([]int{number}, n)
}

// put is a list with one of its numbers changed.
func put(list []int, place, number int) []int {
	list = slices.Clone(list)
	list[place] = number
	return list
}

// goodCurves are of one bucket, of all, with noughts at either end and between, with the greatest weights.
func goodCurves() [][]int {
	return [][]int{
		{1}, {api.MaxWeight}, {1, 3}, {3, 1}, {1, 0, 3}, {0, 1}, {1, 0}, {0, 0, 7, 0, 0}, {0, 0, 5}, {5, 0, 0}, {2, 2, 2}, {1, 2, 3, 4, 5, 6, 7},
		{api.MaxWeight, 1}, {1, api.MaxWeight}, {api.MaxWeight, 0, api.MaxWeight - 1}, {0, api.MaxWeight, 1},
		same(1, api.MaxBuckets), same(api.MaxWeight, api.MaxBuckets), same(api.MaxWeight-1, api.MaxBuckets-1),
		put(same(1, api.MaxBuckets), 31, 0), put(same(0, api.MaxBuckets), 63, 1), put(same(0, api.MaxBuckets), 0, api.MaxWeight),
	}
}

// noCurves have too few weights, too many, none above 0, or one that may not be at the first place, in the midst or at the end.
func noCurves() [][]int {
	list := [][]int{
		nil, {}, {0}, {0, 0}, same(0, api.MaxBuckets), same(0, api.MaxBuckets+1),
		same(1, api.MaxBuckets+1), same(api.MaxWeight, api.MaxBuckets+1), same(1, 5000), put(same(0, api.MaxBuckets+1), api.MaxBuckets, 1),
		{-1}, {api.MaxWeight + 1}, {leastInt}, {greatestInt}, {5, -5}, {-1, 2}, {greatestInt, greatestInt, 3}, {leastInt, leastInt, 1},
	}
	for _, wrong := range []int{-1, api.MaxWeight + 1, leastInt, greatestInt} {
		for _, place := range []int{0, 1, 2} {
			list = append(list, put([]int{1, 2, 3}, place, wrong))
		}
		for _, place := range []int{0, 31, 63} {
			list = append(list, put(same(1, api.MaxBuckets), place, wrong))
		}
	}
	return list
}

// span is a start and an end that may be.
type span struct{ start, end int }

// spans are short and long, at the first ticks, at the last ones and between.
func spans() []span {
	return []span{
		{0, 1}, {0, 2}, {0, 7}, {0, api.MaxSpan}, {5, 6}, {5, 15}, {100, 163}, {100, 164}, {100, 165}, {1000, 1000 + api.MaxSpan - 1}, {1000, 1000 + api.MaxSpan},
		{api.MaxTime - 1, api.MaxTime}, {api.MaxTime - 7, api.MaxTime}, {api.MaxTime - api.MaxSpan, api.MaxTime}, {api.MaxTime - api.MaxSpan - 3, api.MaxTime - 3},
	}
}

// ticks are about both ends of a span, about the end of each of so many buckets, and the first and the last ones of all.
func (s span) ticks(buckets int) []int {
	list := []int{0, 1, api.MaxTime - 1, api.MaxTime}
	for i := range buckets + 1 {
		at := s.start + i*(s.end-s.start)/buckets
		for _, now := range []int{at - 1, at, at + 1} {
			if now >= 0 && now <= api.MaxTime {
				list = append(list, now)
			}
		}
	}
	slices.Sort(list)
	return slices.Compact(list)
}

func quantities() []int {
	return []int{0, 1, 2, 3, 10, 99, 1000003, api.MaxQty - 1, api.MaxQty}
}

// P24.1 to P24.3: the chapter's examples.
func TestExamples(t *testing.T) {
	wantTwap(t, 10, 0, 4, 1, 2, api.OK)
	wantVwap(t, 10, []int{1, 3}, 0, 8, 6, 6, api.OK)
	wantGoal(t, 2, 5, 10, 5, api.OK)
	wantGoal(t, 9, 5, 9, 9, api.OK)
}
