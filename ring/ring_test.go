package ring_test

import (
	"runtime"
	"slices"
	"strconv"
	"testing"
	"weak"

	"spigot/api"
	"spigot/ring"
)

const (
	least = -1 << 63
	most  = 1<<63 - 1
)

func newRing[T any](t *testing.T, room int) *ring.Ring[T] {
	t.Helper()
	r, e := ring.New[T](room)
	if r == nil || e != api.OK {
		t.Fatalf("New(%d): %v, %d", room, r, e)
	}
	return r
}

// filled is a ring of a room with a list's things in it.
func filled[T any](t *testing.T, room int, list ...T) *ring.Ring[T] {
	t.Helper()
	r := newRing[T](t, room)
	for _, x := range list {
		wantPush(t, r, x, api.OK)
	}
	return r
}

// turned is a filled ring through which so many other things have gone ahead of the list's.
func turned[T any](t *testing.T, room, gone int, other T, list ...T) *ring.Ring[T] {
	t.Helper()
	r := newRing[T](t, room)
	for range gone {
		wantPush(t, r, other, api.OK)
		if _, e := r.Pop(); e != api.OK {
			t.Fatalf("Pop: %d", e)
		}
	}
	for _, x := range list {
		wantPush(t, r, x, api.OK)
	}
	return r
}

func wantPush[T any](t *testing.T, r *ring.Ring[T], x T, e api.Errno) {
	t.Helper()
	if got := r.Push(x); got != e {
		t.Fatalf("Push(%v): %d; asked for: %d", x, got, e)
	}
}

func wantPop[T comparable](t *testing.T, r *ring.Ring[T], x T, e api.Errno) {
	t.Helper()
	if got, err := r.Pop(); got != x || err != e {
		t.Fatalf("Pop: %v, %d; asked for: %v, %d", got, err, x, e)
	}
}

func wantPeek[T comparable](t *testing.T, r *ring.Ring[T], x T, e api.Errno) {
	t.Helper()
	if got, err := r.Peek(); got != x || err != e {
		t.Fatalf("Peek: %v, %d; asked for: %v, %d", got, err, x, e)
	}
}

// wantAll holds all that a ring of a room tells against the things that should be in it.
func wantAll[T comparable](t *testing.T, r *ring.Ring[T], room int, list []T) {
	t.Helper()
	if r.Len() != len(list) || r.Room() != room-len(list) {
		t.Fatalf("Len: %d, Room: %d; asked for: %d, %d", r.Len(), r.Room(), len(list), room-len(list))
	}
	if len(list) == 0 {
		var none T
		wantPeek(t, r, none, api.ErrEmpty)
	} else {
		wantPeek(t, r, list[0], api.OK)
	}
	if got := slices.Collect(r.All()); !slices.Equal(got, list) {
		t.Fatalf("All: %v; asked for: %v", got, list)
	}
}

// P5.1.
func TestNew(t *testing.T) {
	for _, room := range []int{least, least + 1, -1 << 32, -api.MaxRing, -2, -1, 0, api.MaxRing + 1, api.MaxRing + 2, 2 * api.MaxRing, 1<<32 + 1, most} {
		if r, e := ring.New[int](room); r != nil || e != api.ErrArg {
			t.Errorf("New[int](%d): %v, %d", room, r, e)
		}
		if r, e := ring.New[string](room); r != nil || e != api.ErrArg {
			t.Errorf("New[string](%d): %v, %d", room, r, e)
		}
	}
	for _, room := range []int{1, 2, 3, 4, 7, 8, 9, api.MaxRing - 1, api.MaxRing} {
		r := newRing[int](t, room)
		wantAll(t, r, room, nil)
		wantPop(t, r, 0, api.ErrEmpty)
		wantAll(t, r, room, nil)
		var list []int
		for i := range room {
			wantPush(t, r, i+5, api.OK)
			list = append(list, i+5)
		}
		wantPush(t, r, 3, api.ErrFull)
		wantAll(t, r, room, list)
	}
}

// The chapter's examples.
func TestExamples(t *testing.T) {
	r := newRing[int](t, 2)
	wantPush(t, r, 7, api.OK)
	wantPush(t, r, 8, api.OK)
	wantPush(t, r, 9, api.ErrFull)
	wantPop(t, r, 7, api.OK)
	wantPush(t, r, 9, api.OK)
	wantAll(t, r, 2, []int{8, 9})
	wantPop(t, r, 8, api.OK)
	wantPop(t, r, 9, api.OK)
	wantPop(t, r, 0, api.ErrEmpty)
}

// goesRound fills a ring and empties it from wherever it begins, and looks at it at each step.
func goesRound[T comparable](t *testing.T, room, gone int, thing func(int) T) {
	t.Helper()
	r := turned(t, room, gone, thing(-1))
	var list []T
	for i := range room {
		wantAll(t, r, room, list)
		wantPush(t, r, thing(i), api.OK)
		list = append(list, thing(i))
	}
	for range 2 {
		wantPush(t, r, thing(room), api.ErrFull)
		wantAll(t, r, room, list)
	}
	for len(list) > 0 {
		wantPop(t, r, list[0], api.OK)
		list = list[1:]
		wantAll(t, r, room, list)
	}
	var none T
	for range 2 {
		wantPop(t, r, none, api.ErrEmpty)
		wantAll(t, r, room, nil)
	}
}

// P5.2, P5.3, of numbers, texts and structs, in rings that begin at each of their cells.
func TestGoesRound(t *testing.T) {
	type order struct {
		name  string
		qty   int
		sides [2]int
	}
	for room := 1; room <= 9; room++ {
		for gone := range 3*room + 1 {
			goesRound(t, room, gone, func(i int) int { return i + 2 })
			goesRound(t, room, gone, func(i int) string { return "n" + strconv.Itoa(i) })
			goesRound(t, room, gone, func(i int) order { return order{"o" + strconv.Itoa(i), i, [2]int{i + 7, -i}} })
			goesRound(t, room, gone, func(i int) float64 { return float64(i) + 1.5 })
			goesRound(t, room, gone, func(int) struct{} { return struct{}{} })
		}
	}
}

// P5.2: it is filled to one less than its room, to its room, and past it, through many turns.
func TestManyTurns(t *testing.T) {
	for _, room := range []int{1, 2, 3, 5, 64, api.MaxRing - 1, api.MaxRing} {
		r := newRing[int](t, room)
		var list []int
		for i := range room - 1 {
			wantPush(t, r, i, api.OK)
			list = append(list, i)
		}
		for i := room - 1; i < 5*room+20; i++ {
			wantPush(t, r, i, api.OK)
			list = append(list, i)
			wantPush(t, r, -1, api.ErrFull)
			if room < 100 || i%97 == 0 {
				wantAll(t, r, room, list)
			}
			wantPop(t, r, list[0], api.OK)
			list = list[1:]
		}
		wantAll(t, r, room, list)
	}
}

// P5.2: a ring that has shrunk and turned on its way keeps the order as more than ever before come in.
func TestGrowsWhileTurned(t *testing.T) {
	for room := 1; room <= 17; room++ {
		for begin := range room + 1 {
			for away := range begin + 1 {
				r := newRing[int](t, room)
				var list []int
				push := func(x int) {
					wantPush(t, r, x, api.OK)
					list = append(list, x)
				}
				for i := range begin {
					push(i)
				}
				for range away {
					wantPop(t, r, list[0], api.OK)
					list = list[1:]
				}
				for i := range room - len(list) {
					push(100 + i)
					wantAll(t, r, room, list)
				}
				wantPush(t, r, 1, api.ErrFull)
			}
		}
	}
}

// P5.2: what is nought, empty or nil is a thing like others.
func TestZeroThings(t *testing.T) {
	wantAll(t, filled(t, 3, 0, 0), 3, []int{0, 0})
	wantAll(t, filled(t, 2, "", ""), 2, []string{"", ""})
	r := filled[any](t, 4, nil, 0, "", nil)
	wantPush(t, r, nil, api.ErrFull)
	wantAll(t, r, 4, []any{nil, 0, "", nil})
	for _, x := range []any{nil, 0, "", nil} {
		wantPop(t, r, x, api.OK)
	}
	wantPop(t, r, nil, api.ErrEmpty)
	numbers := filled(t, 3, least, most)
	wantAll(t, numbers, 3, []int{least, most})
}

// P5.2, rule 2: beside an error there is nothing, whatever lay there once.
func TestNothingBesideErrors(t *testing.T) {
	for room := 1; room <= 4; room++ {
		for gone := range 2*room + 1 {
			numbers := turned(t, room, gone, 5)
			wantPeek(t, numbers, 0, api.ErrEmpty)
			wantPop(t, numbers, 0, api.ErrEmpty)
			texts := turned(t, room, gone, "a")
			wantPeek(t, texts, "", api.ErrEmpty)
			wantPop(t, texts, "", api.ErrEmpty)
		}
	}
}

// P5.2: a peek changes nothing, however often it is made.
func TestPeekChangesNothing(t *testing.T) {
	for gone := range 4 {
		r := turned(t, 3, gone, "z", "a", "b")
		for range 5 {
			wantPeek(t, r, "a", api.OK)
		}
		wantAll(t, r, 3, []string{"a", "b"})
		wantPush(t, r, "c", api.OK)
		wantPeek(t, r, "a", api.OK)
		wantPop(t, r, "a", api.OK)
		wantPeek(t, r, "b", api.OK)
		wantAll(t, r, 3, []string{"b", "c"})
	}
}

// notMade looks at rings that New did not make: the first error is told, full and empty as they may be too.
func notMade[T comparable](t *testing.T, x T) {
	t.Helper()
	var none T
	for _, r := range []*ring.Ring[T]{nil, {}, new(ring.Ring[T])} {
		for range 2 {
			wantPush(t, r, x, api.ErrNil)
			wantPop(t, r, none, api.ErrNil)
			wantPeek(t, r, none, api.ErrNil)
			if r.Len() != 0 || r.Room() != 0 {
				t.Fatalf("Len: %d, Room: %d", r.Len(), r.Room())
			}
			all := r.All()
			if all == nil {
				t.Fatal("All: nil")
			}
			for x := range all {
				t.Fatalf("All: %v", x)
			}
		}
	}
}

// Rules 1 and 2, and what the chapter says of a ring that is nil, or that New did not make.
func TestNotMade(t *testing.T) {
	notMade(t, 7)
	notMade(t, "a")
	notMade(t, [2]int{1, 2})
	notMade(t, struct{ a, b string }{"a", "b"})
}

// P5.3: what is told, if the range is left behind so many things; nothing is changed by it.
func TestLeft(t *testing.T) {
	list := []int{4, 5, 6, 7, 8}
	for gone := range 6 {
		for size := range len(list) + 1 {
			r := turned(t, 5, gone, 1, list[:size]...)
			for many := 1; many <= size; many++ {
				var told []int
				for x := range r.All() {
					told = append(told, x)
					if len(told) == many {
						break
					}
				}
				if !slices.Equal(told, list[:many]) {
					t.Fatalf("All, left behind %d: %v; asked for: %v", many, told, list[:many])
				}
				wantAll(t, r, 5, list[:size])
			}
		}
	}
}

// P5.3: what is left by a panic is left like any other.
func TestLeftByPanic(t *testing.T) {
	r := filled(t, 3, 1, 2)
	func() {
		defer func() {
			if recover() == nil {
				t.Fatal("the panic is caught inside")
			}
		}()
		for range r.All() {
			panic("left")
		}
	}()
	wantAll(t, r, 3, []int{1, 2})
	wantPush(t, r, 3, api.OK)
	wantAll(t, r, 3, []int{1, 2, 3})
}

func wantTold[T comparable](t *testing.T, all func(func(T) bool), list ...T) {
	t.Helper()
	if got := slices.Collect(all); !slices.Equal(got, list) {
		t.Fatalf("All: %v; asked for: %v", got, list)
	}
}

// P5.3, rule 8: each range tells what is there as it begins, not what was there as All was called.
func TestRangedAgain(t *testing.T) {
	r := newRing[int](t, 3)
	all := r.All()
	wantTold(t, all)
	wantPush(t, r, 1, api.OK)
	wantPush(t, r, 2, api.OK)
	wantTold(t, all, 1, 2)
	wantTold(t, all, 1, 2)
	for range all {
		break
	}
	wantTold(t, all, 1, 2)
	wantPush(t, r, 3, api.OK)
	wantPop(t, r, 1, api.OK)
	wantPush(t, r, 4, api.OK)
	wantTold(t, all, 2, 3, 4)
	for _, x := range []int{2, 3, 4} {
		wantPop(t, r, x, api.OK)
	}
	wantTold(t, all)
	wantPush(t, r, 5, api.OK)
	wantTold(t, all, 5)
}

// P5.3, rule 8: what is pushed and popped while it is ranged over, at whichever thing, is not told by that range.
func TestChangedWhileRanged(t *testing.T) {
	list := []int{1, 2, 3, 4}
	for room := len(list); room <= 9; room++ {
		for gone := range room + 1 {
			for at := range list {
				for pops := range len(list) + 1 {
					changedAt(t, turned(t, room, gone, 99, list...), room, list, at, pops)
				}
			}
		}
	}
}

// changedAt makes pops, and then pushes till it is full, at one thing of a range.
func changedAt(t *testing.T, r *ring.Ring[int], room int, list []int, at, pops int) {
	t.Helper()
	var told []int
	now := slices.Clone(list)
	for x := range r.All() {
		if len(told) == at {
			for range pops {
				wantPop(t, r, now[0], api.OK)
				now = now[1:]
			}
			for len(now) < room {
				wantPush(t, r, 50+len(now), api.OK)
				now = append(now, 50+len(now))
			}
			wantAll(t, r, room, now)
		}
		told = append(told, x)
	}
	if !slices.Equal(told, list) {
		t.Fatalf("All, changed at %d: %v; asked for: %v", at, told, list)
	}
	wantAll(t, r, room, now)
}

// P5.3, rule 8: a range that empties the ring, one that fills it, and one that puts each thing behind the others, end.
func TestRangesEnd(t *testing.T) {
	r := filled(t, 4, 1, 2, 3)
	for x := range r.All() {
		wantPop(t, r, x, api.OK)
	}
	wantAll(t, r, 4, nil)
	r = filled(t, 4, 1)
	for x := range r.All() {
		wantPush(t, r, x+1, api.OK)
	}
	wantAll(t, r, 4, []int{1, 2})
	r = filled(t, 3, 1, 2, 3)
	for x := range r.All() {
		wantPop(t, r, x, api.OK)
		wantPush(t, r, x+10, api.OK)
	}
	wantAll(t, r, 3, []int{11, 12, 13})
}

// P5.3: a range within a range of the same iterator, with a pop between.
func TestRangesWithin(t *testing.T) {
	r := turned(t, 3, 2, 0, 1, 2, 3)
	all := r.All()
	var told []int
	for x := range all {
		for y := range all {
			told = append(told, 10*x+y)
		}
		wantPop(t, r, x, api.OK)
	}
	if asked := []int{11, 12, 13, 22, 23, 33}; !slices.Equal(told, asked) {
		t.Fatalf("All within All: %v; asked for: %v", told, asked)
	}
}

// Rule 4: what is answered is the asker's own.
func TestAnswersAreLeftAlone(t *testing.T) {
	r := filled(t, 2, [2]int{1, 2}, [2]int{3, 4})
	for x := range r.All() {
		x[0] = 9
	}
	x, _ := r.Peek()
	x[1] = 9
	y := [2]int{5, 6}
	wantPop(t, r, [2]int{1, 2}, api.OK)
	wantPush(t, r, y, api.OK)
	y[0] = 9
	wantAll(t, r, 2, [][2]int{{3, 4}, {5, 6}})
}

// Two rings have nothing to do with each other.
func TestTwoRings(t *testing.T) {
	a, b := filled(t, 2, 1, 2), filled(t, 2, 3)
	wantPop(t, a, 1, api.OK)
	wantPush(t, b, 4, api.OK)
	wantPush(t, b, 5, api.ErrFull)
	wantAll(t, a, 2, []int{2})
	wantAll(t, b, 2, []int{3, 4})
}

type held struct {
	name string
	next *held
}

// popped is things that went through a ring and out again, which only the ring could still hold.
func popped(t *testing.T, r *ring.Ring[*held], many int) []weak.Pointer[held] {
	var list []weak.Pointer[held]
	for range many {
		x := &held{name: "x"}
		list = append(list, weak.Make(x))
		wantPush(t, r, x, api.OK)
	}
	for range many {
		if x, e := r.Pop(); x == nil || e != api.OK {
			t.Fatalf("Pop: %v, %d", x, e)
		}
	}
	return list
}

// P5.2: what isn't in it any more is not kept by it either.
func TestNothingIsKept(t *testing.T) {
	r := newRing[*held](t, 4)
	for _, many := range []int{1, 4, 3} {
		list := popped(t, r, many)
		runtime.GC()
		runtime.GC()
		for i, p := range list {
			if p.Value() != nil {
				t.Errorf("of %d things, the one at %d is kept", many, i)
			}
		}
	}
	runtime.KeepAlive(r)
}

// taken is how many bytes of memory a function asks for.
func taken(f func()) uint64 {
	var before, behind runtime.MemStats
	runtime.ReadMemStats(&before)
	f()
	runtime.ReadMemStats(&behind)
	return behind.TotalAlloc - before.TotalAlloc
}

// Rule 1: a ring of the greatest room, of great things, asks for no memory for those that aren't in it.
func TestGreatThings(t *testing.T) {
	if n := taken(func() { wantAll(t, newRing[[1 << 24]byte](t, api.MaxRing), api.MaxRing, nil) }); n > 1<<28 {
		t.Errorf("an empty ring takes %d bytes", n)
	}
	r := newRing[[1 << 20]byte](t, api.MaxRing)
	if n := taken(func() { wantPush(t, r, [1 << 20]byte{7}, api.OK) }); n > 1<<26 {
		t.Errorf("one thing takes %d bytes", n)
	}
	wantAll(t, r, api.MaxRing, [][1 << 20]byte{{7}})
}

// P5.2, P5.3, of many pushes, pops and peeks in a mixed order, the same one at each run.
func TestMixed(t *testing.T) {
	x := uint64(88172645463325252)
	next := func(n int) int {
		x ^= x << 13
		x ^= x >> 7
		x ^= x << 17
		return int(x>>1) % n
	}
	for _, room := range []int{1, 2, 3, 4, 7, 16, 100, api.MaxRing} {
		r, list := newRing[int](t, room), []int(nil)
		inward := 2
		for step := range 6000 {
			if step%(room+50) == 0 {
				inward = 1 + next(3) // of 4: whether it goes toward full or toward empty
			}
			switch {
			case next(4) >= inward && len(list) == 0:
				wantPop(t, r, 0, api.ErrEmpty)
			case next(4) >= inward && len(list) > 0:
				wantPop(t, r, list[0], api.OK)
				list = list[1:]
			case len(list) == room:
				wantPush(t, r, step, api.ErrFull)
			default:
				wantPush(t, r, step, api.OK)
				list = append(list, step)
			}
			if room < 50 || step%20 == 0 {
				wantAll(t, r, room, list)
			}
			if r.Len()+r.Room() != room {
				t.Fatalf("Len: %d, Room: %d; together: %d", r.Len(), r.Room(), room)
			}
		}
		wantAll(t, r, room, list)
	}
}
