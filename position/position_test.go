package position_test

import (
	"math/big"
	"testing"

	"spigot/api"
	"spigot/position"
)

const (
	leastInt    = -1 << 63
	greatestInt = 1<<63 - 1
)

// key is a side of an account's symbol.
type key struct{ account, symbol, side int }

// count is how much of it was executed, and what that was worth, in numbers that never lack room.
type count struct{ qty, worth *big.Int }

// plain is positions as the chapter's words have them.
type plain struct {
	accounts, symbols int
	counts            map[key]count
}

func whole(n int) *big.Int { return big.NewInt(int64(n)) }

func product(a, b int) *big.Int { return new(big.Int).Mul(whole(a), whole(b)) }

func sum(a, b *big.Int) *big.Int { return new(big.Int).Add(a, b) }

func difference(a, b *big.Int) *big.Int { return new(big.Int).Sub(a, b) }

func hasRoom(n *big.Int) bool { return n.Cmp(whole(greatestInt)) <= 0 }

func newPlain(accounts, symbols int) *plain {
	return &plain{accounts, symbols, map[key]count{}}
}

func (p *plain) at(k key) count {
	if c, ok := p.counts[k]; ok {
		return c
	}
	return count{new(big.Int), new(big.Int)}
}

func (p *plain) isThere(account, symbol int) bool {
	return 0 <= account && account < p.accounts && 0 <= symbol && symbol < p.symbols
}

func (p *plain) mayBe(k key, qty, price int) bool {
	return p.isThere(k.account, k.symbol) && (k.side == api.Buy || k.side == api.Sell) && 1 <= qty && qty <= api.MaxQty && 1 <= price && price <= api.MaxPrice
}

func (p *plain) fill(k key, qty, price int) api.Errno {
	if !p.mayBe(k, qty, price) {
		return api.ErrArg
	}
	was, worth := p.at(k), product(qty, price)
	now := count{sum(was.qty, whole(qty)), sum(was.worth, worth)}
	if !hasRoom(worth) || !hasRoom(now.qty) || !hasRoom(now.worth) {
		return api.ErrOver
	}
	p.counts[k] = now
	return api.OK
}

func (p *plain) bust(k key, qty, price int) api.Errno {
	if !p.mayBe(k, qty, price) {
		return api.ErrArg
	}
	was, worth := p.at(k), product(qty, price)
	if whole(qty).Cmp(was.qty) > 0 || worth.Cmp(was.worth) > 0 {
		return api.ErrOver
	}
	p.counts[k] = count{difference(was.qty, whole(qty)), difference(was.worth, worth)}
	return api.OK
}

// pair is positions and the plain ones beside them: whatever is done with both, all that is told must be the same.
type pair struct {
	t *testing.T
	b *position.Position
	p *plain
}

func newPair(t *testing.T, accounts, symbols int) *pair {
	t.Helper()
	b, e := position.New(accounts, symbols)
	if b == nil || e != api.OK {
		t.Fatalf("New(%d, %d): %v, %d", accounts, symbols, b, e)
	}
	x := &pair{t, b, newPlain(accounts, symbols)}
	x.same()
	return x
}

// same looks at all that is told, of each account and symbol, and beyond the ends of both.
func (x *pair) same() {
	x.t.Helper()
	for account := range x.p.accounts {
		for symbol := range x.p.symbols {
			x.sameAt(account, symbol)
		}
		for _, symbol := range none(x.p.symbols) {
			x.nothing(account, symbol)
		}
	}
	for _, account := range none(x.p.accounts) {
		x.nothing(account, 0)
		x.nothing(account, x.p.symbols-1)
		x.nothing(account, x.p.symbols)
	}
}

func (x *pair) sameAt(account, symbol int) {
	x.t.Helper()
	bought, sold := x.p.at(key{account, symbol, api.Buy}), x.p.at(key{account, symbol, api.Sell})
	qty, worth := x.b.Bought(account, symbol)
	x.wantNumber("Bought: the quantity", account, symbol, qty, bought.qty)
	x.wantNumber("Bought: the worth", account, symbol, worth, bought.worth)
	qty, worth = x.b.Sold(account, symbol)
	x.wantNumber("Sold: the quantity", account, symbol, qty, sold.qty)
	x.wantNumber("Sold: the worth", account, symbol, worth, sold.worth)
	x.wantNumber("Net", account, symbol, x.b.Net(account, symbol), difference(bought.qty, sold.qty))
}

func (x *pair) wantNumber(what string, account, symbol, got int, want *big.Int) {
	x.t.Helper()
	if whole(got).Cmp(want) != 0 {
		x.t.Fatalf("%s of the account %d and the symbol %d: %d; the document asks for %v", what, account, symbol, got, want)
	}
}

func (x *pair) nothing(account, symbol int) {
	x.t.Helper()
	wantTold(x.t, x.b, account, symbol, [5]int{})
}

// wantTold looks at all that is told of an account's symbol: what was bought, its worth, what was sold, its worth, and the net.
func wantTold(t *testing.T, b *position.Position, account, symbol int, want [5]int) {
	t.Helper()
	if got := told(b, account, symbol); got != want {
		t.Fatalf("of the account %d and the symbol %d is told %v; the document asks for %v", account, symbol, got, want)
	}
}

func told(b *position.Position, account, symbol int) [5]int {
	bought, paid := b.Bought(account, symbol)
	sold, got := b.Sold(account, symbol)
	return [5]int{bought, paid, sold, got, b.Net(account, symbol)}
}

// fill and bust do it with both, and look that the answer is the one that is asked for, and then at the account and the symbol that it is about.
func (x *pair) fill(k key, qty, price int, want api.Errno) {
	x.t.Helper()
	x.answered("Fill", k, qty, price, x.b.Fill(k.account, k.symbol, k.side, qty, price), x.p.fill(k, qty, price), want)
}

func (x *pair) bust(k key, qty, price int, want api.Errno) {
	x.t.Helper()
	x.answered("Bust", k, qty, price, x.b.Bust(k.account, k.symbol, k.side, qty, price), x.p.bust(k, qty, price), want)
}

func (x *pair) answered(what string, k key, qty, price int, got, plain, want api.Errno) {
	x.t.Helper()
	if got != want || plain != want {
		x.t.Fatalf("%s(%d, %d, %d, %d, %d): %d, by the plain count %d; the document asks for %d", what, k.account, k.symbol, k.side, qty, price, got, plain, want)
	}
	if x.p.isThere(k.account, k.symbol) {
		x.sameAt(k.account, k.symbol)
	}
}

// none is the numbers near to which, or far beyond which, a list of so many ends; and such that are as good as one in it, if their high bits are lost.
func none(many int) []int {
	return []int{leastInt, leastInt + 1, -1 << 32, -many - 1, -many, -2, -1, many, many + 1, 2 * many, 1 << 32, 1<<32 + many - 1, greatestInt - 1, greatestInt}
}

// The chapter's example.
func TestExample(t *testing.T) {
	x := newPair(t, 1, 1)
	x.fill(key{0, 0, api.Buy}, 10, 100, api.OK)
	x.fill(key{0, 0, api.Sell}, 4, 101, api.OK)
	wantTold(t, x.b, 0, 0, [5]int{10, 1000, 4, 404, 6})
}

// P18.1: each count from its least to its greatest makes positions that are all 0, and has so many accounts and symbols and no more.
func TestNew(t *testing.T) {
	for accounts := 1; accounts <= api.MaxAccounts; accounts++ {
		for symbols := 1; symbols <= api.MaxSymbols; symbols++ {
			x := newPair(t, accounts, symbols)
			x.fill(key{accounts - 1, symbols - 1, api.Buy}, 1, 1, api.OK)
			x.fill(key{accounts, symbols - 1, api.Buy}, 1, 1, api.ErrArg)
			x.fill(key{accounts - 1, symbols, api.Buy}, 1, 1, api.ErrArg)
			x.same()
		}
	}
}

// P18.1: what is out of its limits is refused, and nothing is made.
func TestNewRefused(t *testing.T) {
	wrong := func(most int) []int {
		return []int{leastInt, leastInt + 1, -most, -1, 0, most + 1, most + 2, 1 << 32, 1<<32 + 1, greatestInt - 1, greatestInt}
	}
	refused := func(accounts, symbols int) {
		t.Helper()
		if p, e := position.New(accounts, symbols); p != nil || e != api.ErrArg {
			t.Errorf("New(%d, %d): %v, %d", accounts, symbols, p, e)
		}
	}
	for _, accounts := range wrong(api.MaxAccounts) {
		refused(accounts, 1)
		refused(accounts, api.MaxSymbols)
		for _, symbols := range wrong(api.MaxSymbols) {
			refused(accounts, symbols)
		}
	}
	for _, symbols := range wrong(api.MaxSymbols) {
		refused(1, symbols)
		refused(api.MaxAccounts, symbols)
	}
}

// P18.1: two that were made have nothing in common.
func TestTwoAreApart(t *testing.T) {
	x, y := newPair(t, 2, 2), newPair(t, 2, 2)
	x.fill(key{1, 0, api.Buy}, 3, 7, api.OK)
	y.same()
	y.fill(key{1, 0, api.Sell}, 5, 2, api.OK)
	y.bust(key{1, 0, api.Buy}, 3, 7, api.ErrOver)
	x.same()
	y.same()
}

// The chapter's first rule: of positions that are nil, or that New did not make, each call answers ErrNil, or nothing, whatever else it is given.
func TestNotMade(t *testing.T) {
	for what, b := range map[string]*position.Position{"nil": nil, "plain": {}} {
		for _, n := range []int{leastInt, -1, 0, 1, api.MaxAccounts, greatestInt} {
			for _, side := range []int{leastInt, 0, api.Buy, api.Sell, 3} {
				for _, qty := range []int{-1, 0, 1, api.MaxQty, greatestInt} {
					if e := b.Fill(n, n, side, qty, qty); e != api.ErrNil {
						t.Errorf("%s: Fill(%d, %d, %d, %d, %d): %d", what, n, n, side, qty, qty, e)
					}
					if e := b.Bust(n, n, side, qty, qty); e != api.ErrNil {
						t.Errorf("%s: Bust(%d, %d, %d, %d, %d): %d", what, n, n, side, qty, qty, e)
					}
				}
			}
			wantTold(t, b, n, n, [5]int{})
			wantTold(t, b, n, 0, [5]int{})
			wantTold(t, b, 0, n, [5]int{})
		}
	}
}

// P18.3: what was bought and sold is told of the account and the symbol that are asked for, and of no others: also where both numbers change places, and at the last ones.
func TestTold(t *testing.T) {
	x := newPair(t, 3, 5)
	n := 0
	for account := range 3 {
		for symbol := range 5 {
			n++
			x.fill(key{account, symbol, api.Buy}, n, 10*n, api.OK)
			x.fill(key{account, symbol, api.Sell}, 100+2*n, 3, api.OK)
			x.same()
			wantTold(t, x.b, account, symbol, [5]int{n, 10 * n * n, 100 + 2*n, 300 + 6*n, -100 - n})
		}
	}
	wantTold(t, x.b, 2, 4, [5]int{15, 2250, 130, 390, -115})
	wantTold(t, x.b, 4, 2, [5]int{})
}

// P18.3: asking changes nothing.
func TestAskingChangesNothing(t *testing.T) {
	x := newPair(t, 2, 3)
	x.fill(key{1, 2, api.Buy}, 8, 9, api.OK)
	for range 3 {
		x.same()
	}
}
