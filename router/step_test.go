package router_test

import (
	"math/rand/v2"
	"testing"

	"spigot/api"
	"spigot/router"
)

// wantStep asks both ways about: which of two numbers comes first is all the same.
func wantStep(t *testing.T, a, b, want int, e api.Errno) {
	t.Helper()
	for range 2 {
		if n, got := router.Step(a, b); n != want || got != e {
			t.Errorf("Step(%d, %d): %d, %d; the document asks for %d, %d", a, b, n, got, want, e)
		}
		a, b = b, a
	}
}

// P23.1: a number below 1 is ErrArg, whatever the other one is.
func TestStepOfNone(t *testing.T) {
	for _, a := range []int{0, -1, -2, -12, -1 << 32, -1 << 40, leastInt + 1, leastInt} {
		for _, b := range []int{1, 2, 12, 1 << 40, greatestInt - 1, greatestInt, 0, -1, -12, leastInt + 1, leastInt} {
			wantStep(t, a, b, 0, api.ErrArg)
		}
	}
}

// P23.1: the least number above 0 that is on both.
func TestStep(t *testing.T) {
	for _, x := range []struct{ a, b, want int }{
		{1, 1, 1}, {1, 2, 2}, {1, 17, 17}, {1, greatestInt - 1, greatestInt - 1}, {1, greatestInt, greatestInt},
		// The same ones.
		{2, 2, 2}, {10, 10, 10}, {1 << 40, 1 << 40, 1 << 40}, {1 << 62, 1 << 62, 1 << 62}, {greatestInt, greatestInt, greatestInt},
		// One is on the other.
		{10, 20, 20}, {3, 9, 9}, {1 << 20, 1 << 40, 1 << 40}, {2, 1 << 62, 1 << 62}, {7, greatestInt, greatestInt}, {greatestInt / 49, greatestInt, greatestInt},
		// Nothing in common but 1.
		{2, 3, 6}, {4, 9, 36}, {10, 21, 210}, {1 << 20, 1<<20 - 1, 1<<40 - 1<<20}, {1<<31 - 1, 1 << 31, 1<<62 - 1<<31},
		// Something in common.
		{4, 6, 12}, {6, 10, 30}, {12, 18, 36}, {100, 250, 500}, {3 << 40, 5 << 40, 15 << 40}, {6 << 58, 4 << 58, 12 << 58},
	} {
		wantStep(t, x.a, x.b, x.want, api.OK)
	}
}

// P23.1: the greatest number that has room is answered, and the least one that has none is ErrOver. 2^63 is on no two numbers below it alone, so 2^63 + 1 is the least.
func TestStepAtTheEnd(t *testing.T) {
	wantStep(t, 49, greatestInt/49, greatestInt, api.OK)
	wantStep(t, 73, greatestInt/73, greatestInt, api.OK)
	wantStep(t, 49*73, greatestInt/73, greatestInt, api.OK)
	wantStep(t, 2, greatestInt/2, greatestInt-1, api.OK)
	wantStep(t, 1<<31, 1<<32-1, 1<<63-1<<31, api.OK)

	wantStep(t, 27, (1<<63+1)/27, 0, api.ErrOver)
	wantStep(t, 19, (1<<63+1)/19, 0, api.ErrOver)
	wantStep(t, 19*27, (1<<63+1)/19, 0, api.ErrOver)
	wantStep(t, 2, 1<<62+1, 0, api.ErrOver)
	wantStep(t, 2, greatestInt, 0, api.ErrOver)
	wantStep(t, greatestInt-1, greatestInt, 0, api.ErrOver)
	// Of these the product's low word would look like an answer.
	wantStep(t, 1<<32, 1<<32+1, 0, api.ErrOver)
	wantStep(t, 1<<62, 5, 0, api.ErrOver)
	wantStep(t, 1<<40, 1<<40-1, 0, api.ErrOver)
	wantStep(t, 1<<33, 1<<31+1, 0, api.ErrOver)
}

// P23.1: of all small numbers, found by counting.
func TestStepByCounting(t *testing.T) {
	for a := 1; a <= 60; a++ {
		for b := 1; b <= 60; b++ {
			n := 1
			for n%a != 0 || n%b != 0 {
				n++
			}
			wantStep(t, a, b, n, api.OK)
		}
	}
}

// P23.1: of numbers of any length, by chance; some have much in common.
func TestStepByChance(t *testing.T) {
	r := rand.New(rand.NewPCG(23, 1))
	met := map[api.Errno]int{}
	for range 100000 {
		a, b := r.Int()>>r.IntN(63), r.Int()>>r.IntN(63)
		if r.IntN(2) == 0 {
			both := 1 + r.IntN(1<<r.IntN(40))
			a, b = a%(greatestInt/both)*both, b%(greatestInt/both)*both
		}
		want, e := plainStep(a, b)
		wantStep(t, a, b, want, e)
		met[e]++
	}
	if len(met) != 3 || met[api.OK] < 1000 || met[api.ErrOver] < 1000 || met[api.ErrArg] < 10 {
		t.Errorf("too few of a kind were met: %v", met)
	}
}
