package berg_test

import (
	"math/big"
	"testing"

	"spigot/api"
	"spigot/berg"
)

const (
	leastInt    = -1 << 63
	greatestInt = 1<<63 - 1
)

// The chapter's limit, in a number.
const mostQty = 1 << 40

func whole(n int) *big.Int { return big.NewInt(int64(n)) }

// plainTarget is what P26.1 says of Target, in numbers that never lack room.
func plainTarget(qty, show, filled int) (int, api.Errno) {
	if qty < 0 || qty > mostQty || show < 1 || show > mostQty || filled < 0 || filled > qty {
		return 0, api.ErrArg
	}
	together := new(big.Int).Add(whole(filled), whole(show))
	if together.Cmp(whole(qty)) > 0 {
		return qty, api.OK
	}
	return int(together.Int64()), api.OK
}

// plainShown is what P26.1 says of Shown.
func plainShown(qty, show, filled int) (int, api.Errno) {
	target, e := plainTarget(qty, show, filled)
	if e != api.OK {
		return 0, e
	}
	return target - filled, api.OK
}

// plainSlices is what P26.2 says: as many whole ones as there are, and one more of what is left over.
func plainSlices(qty, show int) (int, api.Errno) {
	if qty < 0 || qty > mostQty || show < 1 || show > mostQty {
		return 0, api.ErrArg
	}
	many, rest := new(big.Int).QuoRem(whole(qty), whole(show), new(big.Int))
	if rest.Sign() > 0 {
		many.Add(many, whole(1))
	}
	return int(many.Int64()), api.OK
}

// counted is what P26.2 says, gone through slice by slice.
func counted(qty, show int) int {
	many := 0
	for left := qty; left > 0; left -= min(left, show) {
		many++
	}
	return many
}

func wantTarget(t *testing.T, qty, show, filled, want int, e api.Errno) {
	t.Helper()
	if n, got := berg.Target(qty, show, filled); n != want || got != e {
		t.Fatalf("Target(%d, %d, %d): %d, %d; the document asks for %d, %d", qty, show, filled, n, got, want, e)
	}
}

func wantShown(t *testing.T, qty, show, filled, want int, e api.Errno) {
	t.Helper()
	if n, got := berg.Shown(qty, show, filled); n != want || got != e {
		t.Fatalf("Shown(%d, %d, %d): %d, %d; the document asks for %d, %d", qty, show, filled, n, got, want, e)
	}
}

func wantSlices(t *testing.T, qty, show, want int, e api.Errno) {
	t.Helper()
	if n, got := berg.Slices(qty, show); n != want || got != e {
		t.Fatalf("Slices(%d, %d): %d, %d; the document asks for %d, %d", qty, show, n, got, want, e)
	}
}

// wantOut looks at what may be: the target, and what of it is shown.
func wantOut(t *testing.T, qty, show, filled, want int) {
	t.Helper()
	wantTarget(t, qty, show, filled, want, api.OK)
	wantShown(t, qty, show, filled, want-filled, api.OK)
	wantBounds(t, qty, show, filled)
}

// wantNoOut looks that neither a target nor what is shown is told.
func wantNoOut(t *testing.T, qty, show, filled int) {
	t.Helper()
	wantTarget(t, qty, show, filled, 0, api.ErrArg)
	wantShown(t, qty, show, filled, 0, api.ErrArg)
}

// wantPlain looks at both, whether they may be or not, tells which it was, and what is shown.
func wantPlain(t *testing.T, qty, show, filled int) (int, api.Errno) {
	t.Helper()
	target, e := plainTarget(qty, show, filled)
	wantTarget(t, qty, show, filled, target, e)
	shown, e := plainShown(qty, show, filled)
	wantShown(t, qty, show, filled, shown, e)
	if e == api.OK {
		wantBounds(t, qty, show, filled)
	}
	return shown, e
}

// wantBounds is what P26.3 says of what is shown.
func wantBounds(t *testing.T, qty, show, filled int) {
	t.Helper()
	n, e := berg.Shown(qty, show, filled)
	if e != api.OK || n < 0 || n > show || (n == 0) != (filled == qty) {
		t.Fatalf("Shown(%d, %d, %d): %d, %d: more than show, or nothing though not all is executed, or something though all is", qty, show, filled, n, e)
	}
}

// outside is what is below least or above most, near to it and far off.
func outside(least, most int) []int {
	return []int{leastInt, leastInt + 1, -1 << 62, -most - 1, -most, least - 2, least - 1, most + 1, most + 2, greatestInt - 1, greatestInt}
}

// The chapter's examples.
func TestExamples(t *testing.T) {
	wantTarget(t, 100, 30, 50, 80, api.OK)
	wantShown(t, 100, 30, 90, 10, api.OK)
	wantSlices(t, 100, 30, 4, api.OK)
}
