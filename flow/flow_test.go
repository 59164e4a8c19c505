package flow_test

import (
	"math/big"
	"testing"

	"spigot/api"
	"spigot/flow"
)

const (
	leastInt    = -1 << 63
	greatestInt = 1<<63 - 1
)

// The chapter's limits, in numbers.
const (
	mostSymbols = 16
	mostQty     = 1 << 40
	mostRate    = 10000
	mostTotal   = 1 << 62
)

func whole(n int) *big.Int { return big.NewInt(int64(n)) }

// plain is a tape as the chapter's words have it: what each symbol traded, in numbers that never lack room.
type plain []*big.Int

func newPlain(symbols int) plain {
	p := make(plain, symbols)
	for i := range p {
		p[i] = new(big.Int)
	}
	return p
}

func (p plain) has(symbol int) bool {
	return symbol >= 0 && symbol < len(p)
}

// print is what P25.1 says.
func (p plain) print(symbol, qty int) api.Errno {
	if !p.has(symbol) || qty < 1 || qty > mostQty {
		return api.ErrArg
	}
	total := new(big.Int).Add(p[symbol], whole(qty))
	if total.Cmp(whole(mostTotal)) > 0 {
		return api.ErrOver
	}
	p[symbol] = total
	return api.OK
}

// plainTarget is what P25.2 says.
func plainTarget(qty, rate, volume int) (int, api.Errno) {
	if qty < 0 || qty > mostQty || rate < 0 || rate > mostRate || volume < 0 || volume > mostTotal {
		return 0, api.ErrArg
	}
	part := new(big.Int).Mul(whole(volume), whole(rate))
	part.Quo(part, whole(mostRate))
	if part.Cmp(whole(qty)) > 0 {
		return qty, api.OK
	}
	return int(part.Int64()), api.OK
}

// pair is a tape and the plain one beside it: whatever is printed on both, all that is told must be the same.
type pair struct {
	t    *testing.T
	tape *flow.Tape
	p    plain
}

func newPair(t *testing.T, symbols int) *pair {
	t.Helper()
	tape, e := flow.New(symbols)
	if tape == nil || e != api.OK {
		t.Fatalf("New(%d): %v, %d", symbols, tape, e)
	}
	x := &pair{t, tape, newPlain(symbols)}
	x.same()
	return x
}

// print does it with both, looks that the answer is the one that is asked for, and then at all that is told.
func (x *pair) print(symbol, qty int, want api.Errno) {
	x.t.Helper()
	if got := x.follow(symbol, qty); got != want {
		x.t.Fatalf("Print(%d, %d): %d; the document asks for %d", symbol, qty, got, want)
	}
}

// follow does it with both, looks that they answer the same, and at all that is told, and tells the answer.
func (x *pair) follow(symbol, qty int) api.Errno {
	x.t.Helper()
	got, want := x.tape.Print(symbol, qty), x.p.print(symbol, qty)
	if got != want {
		x.t.Fatalf("Print(%d, %d): %d; by the plain count the document asks for %d", symbol, qty, got, want)
	}
	x.same()
	return got
}

// fill prints the greatest quantity till no more than it lacks of a total, and then that.
func (x *pair) fill(symbol, total int) {
	x.t.Helper()
	for left := total - x.tape.Total(symbol); left > 0; left -= mostQty {
		if e := x.tape.Print(symbol, min(left, mostQty)); e != api.OK {
			x.t.Fatalf("Print(%d, %d): %d, with a total of %d ahead of it", symbol, min(left, mostQty), e, x.tape.Total(symbol))
		}
	}
	x.p[symbol] = whole(total)
	x.same()
}

// same looks at the total of each symbol, and of what is none.
func (x *pair) same() {
	x.t.Helper()
	for symbol, want := range x.p {
		if got := x.tape.Total(symbol); whole(got).Cmp(want) != 0 {
			x.t.Fatalf("Total(%d): %d; the document asks for %v", symbol, got, want)
		}
	}
	for _, symbol := range none(len(x.p)) {
		if got := x.tape.Total(symbol); got != 0 {
			x.t.Fatalf("Total(%d) of %d symbols: %d; the document asks for 0", symbol, len(x.p), got)
		}
	}
}

// none is the numbers near to which, or far beyond which, a list of so many ends; and such that are as good as one in it, if their high bits are lost.
func none(many int) []int {
	return []int{leastInt, leastInt + 1, -1 << 32, -many - 1, -many, -2, -1, many, many + 1, 2 * many, 1 << 32, 1<<32 + many - 1, greatestInt - 1, greatestInt}
}

// outside is what is below least or above most, near to it and far off.
func outside(least, most int) []int {
	return []int{leastInt, leastInt + 1, -1 << 62, -most - 1, -most, least - 2, least - 1, most + 1, most + 2, greatestInt - 1, greatestInt}
}

func wantTarget(t *testing.T, qty, rate, volume, want int, e api.Errno) {
	t.Helper()
	if n, got := flow.Target(qty, rate, volume); n != want || got != e {
		t.Errorf("Target(%d, %d, %d): %d, %d; the document asks for %d, %d", qty, rate, volume, n, got, want, e)
	}
}

// P25.2: the chapter's examples.
func TestExamples(t *testing.T) {
	wantTarget(t, 100, 2500, 90, 22, api.OK)
	wantTarget(t, 10, 2500, 90, 10, api.OK)
}

// The limits that the tests' numbers stand for.
func TestLimits(t *testing.T) {
	if mostSymbols != api.MaxSymbols || mostQty != api.MaxQty || mostRate != api.MaxRate || mostTotal != api.MaxLimit {
		t.Error("the limits are not the document's")
	}
}
