package checked_test

import (
	"math/big"
	"slices"
	"testing"

	"spigot/api"
	"spigot/checked"
)

const (
	least = -1 << 63
	most  = 1<<63 - 1
)

// edges are the numbers near which a word, its sign, or its half ends.
var edges = []int{
	least, least + 1, least + 2, -1 << 62, -1<<62 - 1, -1<<62 + 1, -1<<32 - 1, -1 << 32, -1<<31 - 1,
	-10, -7, -3, -2, -1, 0, 1, 2, 3, 7, 10,
	1<<31 + 1, 1 << 32, 1<<32 + 1, 3037000499, 3037000500, 1<<62 - 1, 1 << 62, 1<<62 + 1, most - 2, most - 1, most,
}

func wholeOf(n int) *big.Int { return big.NewInt(int64(n)) }

func productOf(a, b int) *big.Int { return new(big.Int).Mul(wholeOf(a), wholeOf(b)) }

// asked is what the document asks for, of an exact whole number.
func asked(n *big.Int) (int, api.Errno) {
	if !n.IsInt64() {
		return 0, api.ErrOver
	}
	return int(n.Int64()), api.OK
}

// floorOf and ceilOf go by Euclid's division, whose rest is never below 0.
func floorOf(p *big.Int, c int) *big.Int {
	d := wholeOf(c)
	if c < 0 {
		p, d = new(big.Int).Neg(p), d.Neg(d)
	}
	q, _ := new(big.Int).DivMod(p, d, new(big.Int))
	return q
}

func ceilOf(p *big.Int, c int) *big.Int {
	q := floorOf(new(big.Int).Neg(p), c)
	return q.Neg(q)
}

func expect(t *testing.T, what string, args []int, n int, e api.Errno, wantN int, wantE api.Errno) {
	t.Helper()
	if n != wantN || e != wantE {
		t.Errorf("%s%v: %d, %d; asked for: %d, %d", what, args, n, e, wantN, wantE)
	}
}

// mixed tells numbers of all lengths and both signs, the same ones at each run.
func mixed() func() int {
	x := uint64(88172645463325252)
	return func() int {
		x ^= x << 13
		x ^= x >> 7
		x ^= x << 17
		return int(x) >> (x % 64)
	}
}

// P1.1.
func TestAdd(t *testing.T) {
	for _, c := range []struct {
		a, b, n int
		e       api.Errno
	}{
		{2, 3, 5, api.OK}, {-2, 3, 1, api.OK}, {0, 0, 0, api.OK},
		{most, 0, most, api.OK}, {most - 1, 1, most, api.OK}, {most, 1, 0, api.ErrOver}, {1, most, 0, api.ErrOver},
		{most, most, 0, api.ErrOver}, {least, 0, least, api.OK}, {least + 1, -1, least, api.OK},
		{least, -1, 0, api.ErrOver}, {-1, least, 0, api.ErrOver}, {least, least, 0, api.ErrOver}, {least, most, -1, api.OK},
	} {
		n, e := checked.Add(c.a, c.b)
		expect(t, "Add", []int{c.a, c.b}, n, e, c.n, c.e)
	}
}

// P1.1.
func TestSub(t *testing.T) {
	for _, c := range []struct {
		a, b, n int
		e       api.Errno
	}{
		{2, 3, -1, api.OK}, {3, -2, 5, api.OK}, {0, most, -most, api.OK}, {0, least, 0, api.ErrOver},
		{-1, least, most, api.OK}, {-2, most, 0, api.ErrOver}, {-1, most, least, api.OK},
		{least, 1, 0, api.ErrOver}, {least + 1, 1, least, api.OK}, {most, -1, 0, api.ErrOver}, {most - 1, -1, most, api.OK},
		{least, least, 0, api.OK}, {most, most, 0, api.OK}, {least, most, 0, api.ErrOver}, {most, least, 0, api.ErrOver},
	} {
		n, e := checked.Sub(c.a, c.b)
		expect(t, "Sub", []int{c.a, c.b}, n, e, c.n, c.e)
	}
}

// P1.1.
func TestNeg(t *testing.T) {
	for _, c := range []struct {
		a, n int
		e    api.Errno
	}{
		{0, 0, api.OK}, {5, -5, api.OK}, {-5, 5, api.OK},
		{most, least + 1, api.OK}, {least + 1, most, api.OK}, {least, 0, api.ErrOver},
	} {
		n, e := checked.Neg(c.a)
		expect(t, "Neg", []int{c.a}, n, e, c.n, c.e)
	}
}

// P1.1.
func TestMul(t *testing.T) {
	for _, c := range []struct {
		a, b, n int
		e       api.Errno
	}{
		{6, 7, 42, api.OK}, {-6, 7, -42, api.OK}, {-6, -7, 42, api.OK}, {0, least, 0, api.OK}, {most, 0, 0, api.OK},
		{most, 1, most, api.OK}, {most, -1, -most, api.OK}, {least, 1, least, api.OK}, {least, -1, 0, api.ErrOver},
		{-1, least, 0, api.ErrOver}, {-1 << 62, 2, least, api.OK}, {1 << 62, -2, least, api.OK}, {1 << 62, 2, 0, api.ErrOver},
		{-1 << 62, -2, 0, api.ErrOver}, {1 << 32, 1 << 32, 0, api.ErrOver}, {-1 << 32, 1 << 31, least, api.OK},
		{1 << 32, 1 << 31, 0, api.ErrOver}, {least, least, 0, api.ErrOver}, {most, most, 0, api.ErrOver}, {least, most, 0, api.ErrOver},
		{-3, 3074457345618258603, 0, api.ErrOver}, {7, 1317624576693539401, most, api.OK},
	} {
		n, e := checked.Mul(c.a, c.b)
		expect(t, "Mul", []int{c.a, c.b}, n, e, c.n, c.e)
	}
}

// P1.2.
func TestDownAndUp(t *testing.T) {
	for _, c := range []struct {
		a, b, c, down int
		downE         api.Errno
		up            int
		upE           api.Errno
	}{
		{7, 1, 2, 3, api.OK, 4, api.OK}, {7, 1, -2, -4, api.OK, -3, api.OK},
		{-7, 1, 2, -4, api.OK, -3, api.OK}, {-7, 1, -2, 3, api.OK, 4, api.OK},
		{7, -1, -2, 3, api.OK, 4, api.OK}, {6, 1, -2, -3, api.OK, -3, api.OK}, {-6, 1, -2, 3, api.OK, 3, api.OK},
		{1, 1, 2, 0, api.OK, 1, api.OK}, {-1, 1, 2, -1, api.OK, 0, api.OK}, {1, 1, most, 0, api.OK, 1, api.OK},
		{1, 1, least, -1, api.OK, 0, api.OK}, {0, 5, -3, 0, api.OK, 0, api.OK}, {0, least, least, 0, api.OK, 0, api.OK},
		{1 << 62, 6, 4, 3 << 61, api.OK, 3 << 61, api.OK}, {most, most, most, most, api.OK, most, api.OK},
		{least, least, least, least, api.OK, least, api.OK}, {least, most, most, least, api.OK, least, api.OK},
		{least, least, most, 0, api.ErrOver, 0, api.ErrOver}, {most, most, least, -most, api.OK, -most + 1, api.OK},
		{least, 1, -1, 0, api.ErrOver, 0, api.ErrOver}, {least, 1, 1, least, api.OK, least, api.OK},
		{most, 2, 1, 0, api.ErrOver, 0, api.ErrOver}, {least, 2, 1, 0, api.ErrOver, 0, api.ErrOver},
		{most, most, 1, 0, api.ErrOver, 0, api.ErrOver}, {least, least, 1, 0, api.ErrOver, 0, api.ErrOver},
		{1 << 62, most, 1 << 61, 0, api.ErrOver, 0, api.ErrOver}, {1 << 62, -4, 2, least, api.OK, least, api.OK},
		{1 << 62, 4, 2, 0, api.ErrOver, 0, api.ErrOver}, {1 << 62, 4, -2, least, api.OK, least, api.OK},
	} {
		n, e := checked.Down(c.a, c.b, c.c)
		expect(t, "Down", []int{c.a, c.b, c.c}, n, e, c.down, c.downE)
		n, e = checked.Up(c.a, c.b, c.c)
		expect(t, "Up", []int{c.a, c.b, c.c}, n, e, c.up, c.upE)
	}
}

// P1.2. Between an end of the range and the next whole number one way has an answer still: (2^64 - 1) / 2 is 2^63 - 1/2, and (2^64 + 1) / -2 is -2^63 - 1/2.
func TestFractionsBetweenAnEndAndTheNext(t *testing.T) {
	const third = 6148914691236517205 // of 2^64 - 1
	const part = 67280421310721       // of 2^64 + 1, 274177 times
	for _, c := range []struct {
		a, b, c int
		up      bool
		n       int
		e       api.Errno
	}{
		{third, 3, 2, false, most, api.OK}, {third, 3, 2, true, 0, api.ErrOver},
		{-third, 3, -2, false, most, api.OK}, {-third, 3, -2, true, 0, api.ErrOver},
		{-third, 3, 2, false, least, api.OK}, {-third, 3, 2, true, least + 1, api.OK},
		{part, 274177, -2, false, 0, api.ErrOver}, {part, 274177, -2, true, least, api.OK},
		{-part, 274177, 2, false, 0, api.ErrOver}, {-part, 274177, 2, true, least, api.OK},
		{part, 274177, 2, false, 0, api.ErrOver}, {part, 274177, 2, true, 0, api.ErrOver},
	} {
		call, name := checked.Down, "Down"
		if c.up {
			call, name = checked.Up, "Up"
		}
		n, e := call(c.a, c.b, c.c)
		expect(t, name, []int{c.a, c.b, c.c}, n, e, c.n, c.e)
	}
}

// P1.2.
func TestDivisorOfNought(t *testing.T) {
	for _, a := range edges {
		for _, b := range edges {
			n, e := checked.Down(a, b, 0)
			expect(t, "Down", []int{a, b, 0}, n, e, 0, api.ErrZero)
			n, e = checked.Up(a, b, 0)
			expect(t, "Up", []int{a, b, 0}, n, e, 0, api.ErrZero)
		}
	}
}

// P1.3.
func TestSum(t *testing.T) {
	for _, c := range []struct {
		list []int
		n    int
		e    api.Errno
	}{
		{nil, 0, api.OK}, {[]int{}, 0, api.OK}, {[]int{5}, 5, api.OK}, {[]int{1, 2, -4}, -1, api.OK},
		{[]int{most}, most, api.OK}, {[]int{least}, least, api.OK}, {[]int{most, 1}, 0, api.ErrOver}, {[]int{least, -1}, 0, api.ErrOver},
		{[]int{most, 1, -1}, most, api.OK}, {[]int{1, most, -1}, most, api.OK}, {[]int{least, -1, 1}, least, api.OK},
		{[]int{most, most, least, least}, -2, api.OK}, {[]int{least, least, most, most}, -2, api.OK},
		{[]int{most, most, most, least, least, least, 3}, 0, api.OK}, {[]int{least, least}, 0, api.ErrOver},
		{[]int{most, most, 2}, 0, api.ErrOver}, {[]int{least, least, least, most}, 0, api.ErrOver},
		{[]int{most, -1, 2}, 0, api.ErrOver}, {[]int{least, 1, -2}, 0, api.ErrOver},
	} {
		n, e := checked.Sum(c.list)
		expect(t, "Sum", c.list, n, e, c.n, c.e)
	}
}

// P1.3.
func TestSumFarOutAndBack(t *testing.T) {
	for _, end := range []int{most, least} {
		list := slices.Repeat([]int{end}, 5000)
		if n, e := checked.Sum(list); n != 0 || e != api.ErrOver {
			t.Errorf("5000 times %d: %d, %d", end, n, e)
		}
		back := -1 - end // the other end
		list = append(list, slices.Repeat([]int{back}, 5000)...)
		if n, e := checked.Sum(list); n != -5000 || e != api.OK {
			t.Errorf("5000 times %d and back: %d, %d", end, n, e)
		}
	}
}

// P1.3, and the rule that what is handed in is neither changed nor kept.
func TestSumLeavesTheListAlone(t *testing.T) {
	room := []int{4, most, 1, -1, 99, 98}
	list := room[1:4]
	if n, e := checked.Sum(list); n != most || e != api.OK {
		t.Errorf("%d, %d", n, e)
	}
	if !slices.Equal(room, []int{4, most, 1, -1, 99, 98}) {
		t.Errorf("changed: %v", room)
	}
	list[2] = -2
	if n, e := checked.Sum(list); n != most-1 || e != api.OK {
		t.Errorf("kept from the call ahead: %d, %d", n, e)
	}
}

// P1.4.
func TestLess(t *testing.T) {
	for _, c := range []struct {
		a, b, c, d int
		less       bool
	}{
		{2, 3, 7, 1, true}, {7, 1, 2, 3, false}, {2, 3, 3, 2, false}, {-2, 3, 2, 3, true}, {2, 3, -2, 3, false},
		{-2, 3, -7, 1, false}, {-7, 1, -2, 3, true}, {0, -5, 0, 7, false}, {0, 7, 0, -5, false},
		{least, 2, -1, 3, true}, {-1, 3, least, 2, false}, {least, least, most, most, false}, {most, most, least, least, true},
		{least, most, least, least, true}, {least, least, least, most, false}, {least, most, most, least, false},
		{most, most - 1, most, most, true}, {most, most, most, most - 1, false}, {least, most, least + 1, most, true},
		{1 << 32, 1 << 32, 1 << 33, 1 << 31, false}, {1 << 32, 1 << 32, 1<<32 + 1, 1<<32 - 1, false}, {1<<32 + 1, 1<<32 - 1, 1 << 32, 1 << 32, true},
		// The low words alone would say otherwise.
		{most, 1, 1 << 32, 1 << 32, true}, {1 << 32, 1 << 32, most, 1, false}, {-1 << 32, 1 << 32, -1, 1, true},
		// Both above 2^63 within one word.
		{1 << 62, 2, 1 << 62, 3, true}, {1 << 62, 3, 1 << 62, 2, false}, {most, 1, 1 << 62, 3, true},
	} {
		if got := checked.Less(c.a, c.b, c.c, c.d); got != c.less {
			t.Errorf("Less(%d, %d, %d, %d): %v", c.a, c.b, c.c, c.d, got)
		}
	}
}

func looksAtPair(t *testing.T, a, b int) {
	t.Helper()
	n, e := checked.Add(a, b)
	wantN, wantE := asked(new(big.Int).Add(wholeOf(a), wholeOf(b)))
	expect(t, "Add", []int{a, b}, n, e, wantN, wantE)
	n, e = checked.Sub(a, b)
	wantN, wantE = asked(new(big.Int).Sub(wholeOf(a), wholeOf(b)))
	expect(t, "Sub", []int{a, b}, n, e, wantN, wantE)
	n, e = checked.Mul(a, b)
	wantN, wantE = asked(productOf(a, b))
	expect(t, "Mul", []int{a, b}, n, e, wantN, wantE)
	n, e = checked.Neg(a)
	wantN, wantE = asked(new(big.Int).Neg(wholeOf(a)))
	expect(t, "Neg", []int{a}, n, e, wantN, wantE)
}

func looksAtThree(t *testing.T, a, b, c int) {
	t.Helper()
	if c == 0 {
		return
	}
	n, e := checked.Down(a, b, c)
	wantN, wantE := asked(floorOf(productOf(a, b), c))
	expect(t, "Down", []int{a, b, c}, n, e, wantN, wantE)
	n, e = checked.Up(a, b, c)
	wantN, wantE = asked(ceilOf(productOf(a, b), c))
	expect(t, "Up", []int{a, b, c}, n, e, wantN, wantE)
}

func looksAtFour(t *testing.T, a, b, c, d int) {
	t.Helper()
	want := productOf(a, b).Cmp(productOf(c, d)) < 0
	if got := checked.Less(a, b, c, d); got != want {
		t.Errorf("Less(%d, %d, %d, %d): %v", a, b, c, d, got)
	}
	list := []int{a, b, c, d}
	sum := new(big.Int)
	for _, x := range list {
		sum.Add(sum, wholeOf(x))
	}
	n, e := checked.Sum(list)
	wantN, wantE := asked(sum)
	expect(t, "Sum", list, n, e, wantN, wantE)
}

// P1.1 to P1.4: all edges against each other, held against numbers of any length.
func TestEdgesExactly(t *testing.T) {
	for _, a := range edges {
		for _, b := range edges {
			looksAtPair(t, a, b)
			for _, c := range edges {
				looksAtThree(t, a, b, c)
				looksAtFour(t, a, b, c, a)
				looksAtFour(t, a, b, b, c)
				looksAtFour(t, a, b, c, -b-1)
			}
		}
	}
}

// P1.1 to P1.4.
func TestMixedExactly(t *testing.T) {
	next := mixed()
	for range 100000 {
		a, b, c, d := next(), next(), next(), next()
		looksAtPair(t, a, b)
		looksAtThree(t, a, b, c)
		looksAtFour(t, a, b, c, d)
	}
}
