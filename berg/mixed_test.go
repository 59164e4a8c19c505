package berg_test

import (
	"math/bits"
	"math/rand/v2"
	"testing"

	"spigot/api"
	"spigot/berg"
)

// someUpTo is from 0 to most, of any length, now and then near its end.
func someUpTo(r *rand.Rand, most int) int {
	if r.IntN(20) == 0 {
		return max(0, most-r.IntN(2))
	}
	return r.IntN(most>>r.IntN(bits.Len(uint(most))+1) + 1)
}

// some is one of a list.
func some(r *rand.Rand, list []int) int {
	return list[r.IntN(len(list))]
}

// someRight is what a target may be asked of: now and then both together come to about the quantity.
func someRight(r *rand.Rand) (qty, show, filled int) {
	qty = someUpTo(r, mostQty)
	show = 1 + someUpTo(r, mostQty-1)
	if r.IntN(2) == 0 {
		show = 1 + someUpTo(r, max(qty, 1)-1)
	}
	filled = someUpTo(r, qty)
	if r.IntN(3) == 0 {
		filled = min(qty, max(0, qty-show+r.IntN(5)-2))
	}
	return qty, show, filled
}

// P26.1 and P26.3: runs by chance of what is right, held against the chapter's words.
func TestTargetsByChance(t *testing.T) {
	r := rand.New(rand.NewPCG(26, 1))
	wholes, rests, nothing := 0, 0, 0
	for range 200000 {
		qty, show, filled := someRight(r)
		shown, e := wantPlain(t, qty, show, filled)
		switch {
		case e != api.OK:
			t.Fatalf("(%d, %d, %d) may be", qty, show, filled)
		case shown == 0:
			nothing++
		case shown == show:
			wholes++
		default:
			rests++
		}
	}
	if wholes < 20000 || rests < 20000 || nothing < 5000 {
		t.Errorf("%d times all of show was shown, %d times a rest, %d times nothing: too few", wholes, rests, nothing)
	}
}

// P26.1: runs by chance of which something may be wrong, or several things.
func TestWrongTargetsByChance(t *testing.T) {
	r := rand.New(rand.NewPCG(26, 2))
	told := map[api.Errno]int{}
	for range 100000 {
		qty, show, filled := someRight(r)
		if r.IntN(5) == 0 {
			filled = some(r, outside(0, qty))
		}
		if r.IntN(5) == 0 {
			qty = some(r, outside(0, mostQty))
		}
		if r.IntN(5) == 0 {
			show = some(r, append(outside(1, mostQty), 0))
		}
		if r.IntN(50) == 0 {
			qty, show, filled = int(r.Uint64()), int(r.Uint64()), int(r.Uint64())
		}
		_, e := wantPlain(t, qty, show, filled)
		told[e]++
	}
	if told[api.OK] < 10000 || told[api.ErrArg] < 10000 {
		t.Errorf("too few of a kind: %v", told)
	}
}

// P26.2: runs by chance, wrong ones among them, held against the chapter's words.
func TestSlicesByChance(t *testing.T) {
	r := rand.New(rand.NewPCG(26, 3))
	told := map[api.Errno]int{}
	even := 0
	for range 200000 {
		qty, show, _ := someRight(r)
		if r.IntN(3) == 0 { // about so many whole ones
			qty = max(0, min(mostQty, someUpTo(r, mostQty/show)*show+r.IntN(3)-1))
		}
		if r.IntN(8) == 0 {
			qty = some(r, outside(0, mostQty))
		}
		if r.IntN(8) == 0 {
			show = some(r, append(outside(1, mostQty), 0))
		}
		want, e := plainSlices(qty, show)
		wantSlices(t, qty, show, want, e)
		told[e]++
		if e == api.OK && want > 1 && qty%show == 0 {
			even++
		}
	}
	if told[api.OK] < 50000 || told[api.ErrArg] < 10000 || even < 5000 {
		t.Errorf("too few of a kind: %v, %d even ones", told, even)
	}
}

// someBerg is a quantity and a show of which there are not very many.
func someBerg(r *rand.Rand) (qty, show int) {
	show = 1 + someUpTo(r, mostQty-1)
	return someUpTo(r, min(mostQty, show*(1+r.IntN(60)))), show
}

// P26.1 to P26.3: runs by chance in which all that is shown is executed each time.
func TestExecutedSliceBySliceByChance(t *testing.T) {
	r := rand.New(rand.NewPCG(26, 4))
	several := 0
	for range 20000 {
		qty, show := someBerg(r)
		if executeAll(t, qty, show) > 2 {
			several++
		}
	}
	if several < 2000 {
		t.Errorf("only %d were executed in more than two slices", several)
	}
}

// P26.1 and P26.3: runs by chance in which only a part of what is shown is executed each time: what should be out never falls, and it ends with the whole, in no fewer slices than are told.
func TestExecutedInPartsByChance(t *testing.T) {
	r := rand.New(rand.NewPCG(26, 5))
	parts := 0
	for range 5000 {
		qty, show := someBerg(r)
		filled, was, many := 0, 0, 0
		for filled < qty {
			shown, e := wantPlain(t, qty, show, filled)
			if e != api.OK || shown < 1 {
				t.Fatalf("Shown(%d, %d, %d): %d, %d", qty, show, filled, shown, e)
			}
			was = wantNoLess(t, qty, show, filled, was)
			part := shown/2 + r.IntN(shown-shown/2) + 1 // half of it at least, so that it ends soon
			if part < shown {
				parts++
			}
			filled += part
			many++
		}
		wantOut(t, qty, show, qty, qty)
		if least, e := berg.Slices(qty, show); e != api.OK || many < least {
			t.Fatalf("Slices(%d, %d): %d, %d; but %d were enough", qty, show, least, e, many)
		}
	}
	if parts < 10000 {
		t.Errorf("only %d were executed in part", parts)
	}
}

// Rule 5: what is told is the same however often it is asked for.
func TestAskedTwice(t *testing.T) {
	r := rand.New(rand.NewPCG(26, 6))
	for range 1000 {
		qty, show, filled := someRight(r)
		wantPlain(t, qty, show, filled)
		some, e := plainSlices(qty, show)
		wantSlices(t, qty, show, some, e)
		wantPlain(t, qty, show, filled)
		wantSlices(t, qty, show, some, e)
	}
}
