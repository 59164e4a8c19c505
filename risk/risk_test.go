package risk_test

import (
	"math/big"
	"slices"
	"testing"

	"spigot/api"
	"spigot/risk"
)

const (
	leastInt    = -1 << 63
	greatestInt = 1<<63 - 1
)

// reservation is what a slot of a plain book holds.
type reservation struct{ account, amount int }

// plain is a book as the chapter's words have it: sums are made anew each time, of numbers that never lack room.
type plain struct {
	limits   []int
	realised []*big.Int
	slots    int
	held     map[int]reservation
}

func newPlain(limits []int, slots int) *plain {
	p := &plain{limits: slices.Clone(limits), slots: slots, held: map[int]reservation{}}
	for range limits {
		p.realised = append(p.realised, new(big.Int))
	}
	return p
}

func whole(n int) *big.Int { return big.NewInt(int64(n)) }

func (p *plain) isAccount(n int) bool { return 0 <= n && n < len(p.limits) }

func (p *plain) isSlot(n int) bool { return 0 <= n && n < p.slots }

// used is what an account uses, but for what one slot holds of it.
func (p *plain) used(account, but int) *big.Int {
	sum := new(big.Int).Set(p.realised[account])
	for slot, r := range p.held {
		if slot != but && r.account == account {
			sum.Add(sum, whole(r.amount))
		}
	}
	return sum
}

// over says whether an account would use more than its limit, if a slot held so much of it.
func (p *plain) over(account, slot, amount int) bool {
	sum := p.used(account, slot)
	return sum.Add(sum, whole(amount)).Cmp(whole(p.limits[account])) > 0
}

func (p *plain) reserve(account, slot, amount int) api.Errno {
	if !p.isAccount(account) || !p.isSlot(slot) || amount < 0 || amount > api.MaxLimit {
		return api.ErrArg
	}
	if _, ok := p.held[slot]; ok {
		return api.ErrTwice
	}
	if p.over(account, slot, amount) {
		return api.ErrLimit
	}
	p.held[slot] = reservation{account, amount}
	return api.OK
}

func (p *plain) resize(slot, amount int) api.Errno {
	if !p.isSlot(slot) || amount < 0 || amount > api.MaxLimit {
		return api.ErrArg
	}
	r, ok := p.held[slot]
	if !ok {
		return api.ErrUnknown
	}
	if p.over(r.account, slot, amount) {
		return api.ErrLimit
	}
	p.held[slot] = reservation{r.account, amount}
	return api.OK
}

func (p *plain) settle(slot, worth int) api.Errno {
	if !p.isSlot(slot) || worth < 0 {
		return api.ErrArg
	}
	r, ok := p.held[slot]
	if !ok {
		return api.ErrUnknown
	}
	if worth > r.amount {
		return api.ErrArg
	}
	delete(p.held, slot)
	p.realised[r.account].Add(p.realised[r.account], whole(worth))
	return api.OK
}

func (p *plain) undo(account, worth int) api.Errno {
	if !p.isAccount(account) || worth < 0 || p.realised[account].Cmp(whole(worth)) < 0 {
		return api.ErrArg
	}
	p.realised[account].Sub(p.realised[account], whole(worth))
	return api.OK
}

// pair is a book and the plain one beside it: whatever is done with both, all that is told must be the same.
type pair struct {
	t *testing.T
	b *risk.Book
	p *plain
}

func newPair(t *testing.T, slots int, limits ...int) *pair {
	t.Helper()
	b, e := risk.New(limits, slots)
	if b == nil || e != api.OK {
		t.Fatalf("New(%v, %d): %v, %d", limits, slots, b, e)
	}
	x := &pair{t, b, newPlain(limits, slots)}
	x.same()
	return x
}

// same looks at all that the book tells: also at the ends, and beyond them, and that no account uses less than 0 or more than its limit.
func (x *pair) same() {
	x.t.Helper()
	for account, limit := range x.p.limits {
		used := x.p.used(account, -1)
		wantNumber(x.t, "Used", account, x.b.Used(account), used)
		wantNumber(x.t, "Realised", account, x.b.Realised(account), x.p.realised[account])
		wantNumber(x.t, "Left", account, x.b.Left(account), new(big.Int).Sub(whole(limit), used))
		if n := x.b.Used(account); n < 0 || n > limit {
			x.t.Fatalf("the account %d of the limit %d uses %d", account, limit, n)
		}
	}
	for slot := range x.p.slots {
		r, ok := x.p.held[slot]
		wantHeld(x.t, x.b, slot, r.account, r.amount, ok)
	}
	wantNoAccounts(x.t, x.b, len(x.p.limits))
	wantNoSlots(x.t, x.b, x.p.slots)
}

// told looks at what a call answered in both books, at what was asked for, and at all that is told behind it.
func (x *pair) told(call string, got, plain, want api.Errno) {
	x.t.Helper()
	if got != want || plain != want {
		x.t.Fatalf("%s: %d, of the plain book %d; asked for: %d", call, got, plain, want)
	}
	x.same()
}

func (x *pair) reserve(account, slot, amount int, want api.Errno) {
	x.t.Helper()
	x.told("Reserve", x.b.Reserve(account, slot, amount), x.p.reserve(account, slot, amount), want)
}

func (x *pair) resize(slot, amount int, want api.Errno) {
	x.t.Helper()
	x.told("Resize", x.b.Resize(slot, amount), x.p.resize(slot, amount), want)
}

func (x *pair) settle(slot, worth int, want api.Errno) {
	x.t.Helper()
	x.told("Settle", x.b.Settle(slot, worth), x.p.settle(slot, worth), want)
}

func (x *pair) undo(account, worth int, want api.Errno) {
	x.t.Helper()
	x.told("Undo", x.b.Undo(account, worth), x.p.undo(account, worth), want)
}

// money looks at what an account uses, and at what was realised of it.
func (x *pair) money(account, used, realised int) {
	x.t.Helper()
	if u, r := x.b.Used(account), x.b.Realised(account); u != used || r != realised {
		x.t.Fatalf("the account %d uses %d, realised are %d; asked for: %d, %d", account, u, r, used, realised)
	}
}

func wantNumber(t *testing.T, what string, account, got int, want *big.Int) {
	t.Helper()
	if whole(got).Cmp(want) != 0 {
		t.Fatalf("%s(%d): %d; asked for: %v", what, account, got, want)
	}
}

func wantHeld(t *testing.T, b *risk.Book, slot, account, amount int, ok bool) {
	t.Helper()
	if a, n, is := b.Held(slot); a != account || n != amount || is != ok {
		t.Fatalf("Held(%d): %d, %d, %t; asked for: %d, %d, %t", slot, a, n, is, account, amount, ok)
	}
}

// none is numbers of accounts, or of slots, that there are not, if there are so many.
func none(many int) []int {
	return []int{leastInt, leastInt + 1, -1 << 32, -many, -2, -1, many, many + 1, 1 << 8, 1 << 16, 1 << 32, 1<<32 + 1, greatestInt - 1, greatestInt}
}

func wantNoAccounts(t *testing.T, b *risk.Book, many int) {
	t.Helper()
	for _, n := range none(many) {
		if n >= 0 && n < many {
			continue
		}
		if used, realised, left := b.Used(n), b.Realised(n), b.Left(n); used != 0 || realised != 0 || left != 0 {
			t.Fatalf("of no account %d: %d, %d, %d", n, used, realised, left)
		}
	}
}

func wantNoSlots(t *testing.T, b *risk.Book, many int) {
	t.Helper()
	for _, n := range none(many) {
		if n < 0 || n >= many {
			wantHeld(t, b, n, 0, 0, false)
		}
	}
}

// The chapter's examples.
func TestExamples(t *testing.T) {
	x := newPair(t, 2, 100)
	x.reserve(0, 0, 60, api.OK)
	x.reserve(0, 1, 50, api.ErrLimit)
	x.reserve(0, 1, 40, api.OK)
	x.settle(0, 10, api.OK)
	x.money(0, 50, 10)
	x.undo(0, 10, api.OK)
	x.money(0, 40, 0)
}

// many is so many limits, all the same.
func many(n, limit int) []int {
	return slices.Repeat([]int{limit}, n)
}

// P17.1: how many limits there may be, how great they are, and how many slots; a new book holds nothing.
func TestNew(t *testing.T) {
	for _, accounts := range []int{1, 2, 15, api.MaxAccounts} {
		for _, slots := range []int{1, 2, 63, api.MaxParents} {
			for _, limit := range []int{0, 1, 100, api.MaxLimit - 1, api.MaxLimit} {
				x := newPair(t, slots, many(accounts, limit)...)
				for account := range accounts {
					x.money(account, 0, 0)
					if left := x.b.Left(account); left != limit {
						t.Errorf("Left(%d): %d; asked for: %d", account, left, limit)
					}
				}
				x.reserve(accounts-1, slots-1, limit, api.OK)
			}
		}
	}
	x := newPair(t, 3, 0, 5, api.MaxLimit)
	x.reserve(0, 0, 1, api.ErrLimit)
	x.reserve(1, 0, 5, api.OK)
	x.reserve(2, 1, api.MaxLimit, api.OK)
}

// P17.1: what New refuses.
func TestNewRefuses(t *testing.T) {
	for _, limits := range [][]int{nil, {}, make([]int, 0, 8), many(api.MaxAccounts+1, 1), many(api.MaxAccounts+2, 1), many(256+1, 1)} {
		wantNoBook(t, limits, 1)
		wantNoBook(t, limits, api.MaxParents)
		wantNoBook(t, limits, 0)
	}
	for _, limit := range []int{leastInt, leastInt + 1, -api.MaxLimit, -1 << 32, -1, api.MaxLimit + 1, greatestInt - 1, greatestInt} {
		for _, accounts := range []int{1, 2, 3, api.MaxAccounts} {
			for place := range accounts {
				limits := many(accounts, 1)
				limits[place] = limit
				wantNoBook(t, limits, 1)
			}
		}
	}
	for _, slots := range none(api.MaxParents + 1) {
		wantNoBook(t, []int{100}, slots)
	}
	wantNoBook(t, []int{100}, 0)
}

func wantNoBook(t *testing.T, limits []int, slots int) {
	t.Helper()
	if b, e := risk.New(limits, slots); b != nil || e != api.ErrArg {
		t.Errorf("New(%v, %d): %v, %d", limits, slots, b, e)
	}
}

// P17.1, and rule 4: the limits may be written over, and are neither changed nor kept, their spare room neither.
func TestLimitsNotKept(t *testing.T) {
	room := []int{100, 50, 7, 8}
	b, e := risk.New(room[:2], 2)
	if e != api.OK {
		t.Fatal(e)
	}
	if !slices.Equal(room, []int{100, 50, 7, 8}) {
		t.Fatalf("the limits were changed: %v", room)
	}
	for i := range room {
		room[i] = 0
	}
	x := &pair{t, b, newPlain([]int{100, 50}, 2)}
	x.same()
	x.reserve(0, 0, 100, api.OK)
	x.reserve(1, 1, 51, api.ErrLimit)
	x.reserve(1, 1, 50, api.OK)
	x.settle(0, 100, api.OK)
	if !slices.Equal(room, []int{0, 0, 0, 0}) {
		t.Fatalf("the limits were changed: %v", room)
	}
}

// Rule 1: of a book that is nil, or that New did not make, ErrNil and nothing else, whatever it is given.
func TestNotMade(t *testing.T) {
	numbers := []int{leastInt, -1, 0, 1, 15, 16, 63, 64, api.MaxLimit, api.MaxLimit + 1, greatestInt}
	for _, b := range []*risk.Book{nil, {}, new(risk.Book)} {
		for _, n := range numbers {
			for _, m := range numbers {
				for _, amount := range numbers {
					wantNil(t, "Reserve", b.Reserve(n, m, amount))
				}
				wantNil(t, "Resize", b.Resize(n, m))
				wantNil(t, "Settle", b.Settle(n, m))
				wantNil(t, "Undo", b.Undo(n, m))
			}
			if used, realised, left := b.Used(n), b.Realised(n), b.Left(n); used != 0 || realised != 0 || left != 0 {
				t.Fatalf("of the account %d: %d, %d, %d", n, used, realised, left)
			}
			wantHeld(t, b, n, 0, 0, false)
		}
	}
}

func wantNil(t *testing.T, call string, e api.Errno) {
	t.Helper()
	if e != api.ErrNil {
		t.Fatalf("%s: %d", call, e)
	}
}

// Two books have nothing to do with each other.
func TestTwoBooks(t *testing.T) {
	x, y := newPair(t, 2, 100), newPair(t, 2, 100)
	x.reserve(0, 0, 100, api.OK)
	y.same()
	y.reserve(0, 0, 70, api.OK)
	y.settle(0, 30, api.OK)
	x.same()
	x.settle(0, 100, api.OK)
	y.undo(0, 31, api.ErrArg)
	y.undo(0, 30, api.OK)
	x.money(0, 100, 100)
}
