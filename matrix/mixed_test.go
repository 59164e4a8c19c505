package matrix_test

import (
	"math/rand/v2"
	"slices"
	"testing"

	"spigot/api"
	"spigot/matrix"
)

// someArgument is one of the right ones, now and then one of the wrong ones.
func someArgument(r *rand.Rand, right, wrong []int) int {
	if r.IntN(12) == 0 {
		return wrong[r.IntN(len(wrong))]
	}
	return right[r.IntN(len(right))]
}

// keeps looks at one step of an order: what is done stays as it is, what was pending and is so no more is never pending again.
func keeps(t *testing.T, state, event, cum, next int) {
	t.Helper()
	switch {
	case slices.Contains(doneStates(), state) && next != state:
		t.Fatalf("%d is done; behind the event %d with %d executed it is %d", state, event, cum, next)
	case state != api.SPending && next == api.SPending:
		t.Fatalf("%d is pending again behind the event %d with %d executed", state, event, cum)
	case !slices.Contains(states(), next):
		t.Fatalf("%d is no state: behind the event %d in %d with %d executed", next, event, state, cum)
	}
}

// P20.3: each single step keeps what is done and does not make anything pending again.
func TestSteps(t *testing.T) {
	for _, state := range states() {
		for _, event := range append(events(), noEvents()...) {
			for _, cum := range append(cums(), noCums()...) {
				if next, e := matrix.Next(state, event, cum); e == api.OK {
					keeps(t, state, event, cum, next)
				} else if next != 0 {
					t.Fatalf("Next(%d, %d, %d): %d beside the error %d", state, event, cum, next, e)
				}
			}
		}
	}
}

// run is an order to which things happen by chance, one behind the other, each held against the chapter's table; it answers the states that it was in.
func run(t *testing.T, r *rand.Rand, all map[[2]int]string, steps int) map[int]int {
	t.Helper()
	state, was := api.SPending, map[int]int{api.SPending: 1}
	for range steps {
		event, cum := someArgument(r, events(), noEvents()), someArgument(r, cums(), noCums())
		next, e := matrix.Next(state, event, cum)
		text, known := all[[2]int{state, event}]
		want, wantE := asked(text, state, cum)
		if !known || cum < 0 {
			want, wantE = 0, api.ErrArg
		}
		if next != want || e != wantE {
			t.Fatalf("Next(%d, %d, %d): %d, %d; asked for: %d, %d", state, event, cum, next, e, want, wantE)
		}
		if e != api.OK {
			continue
		}
		keeps(t, state, event, cum, next)
		if matrix.Done(state) && !matrix.Done(next) || matrix.Open(next) == matrix.Done(next) {
			t.Fatalf("from %d to %d: open %v, done %v", state, next, matrix.Open(next), matrix.Done(next))
		}
		state = next
		was[state]++
	}
	return was
}

// P20.1 to P20.3: long runs of events by chance; each of the states is met in some of them.
func TestRuns(t *testing.T) {
	all, met := cells(t), map[int]int{}
	for i := range 2000 {
		for state, n := range run(t, rand.New(rand.NewPCG(20, uint64(i))), all, 100) {
			met[state] += n
		}
	}
	for _, state := range states() {
		if met[state] == 0 {
			t.Errorf("%d was never met", state)
		}
	}
}

// without are all events but some.
func without(some ...int) []int {
	return slices.DeleteFunc(events(), func(event int) bool { return slices.Contains(some, event) })
}

// P20.3: an order to which nothing happens that ends it stays open, however long, and is not pending once it was answered.
func TestLongOpen(t *testing.T) {
	r := rand.New(rand.NewPCG(20, 5000))
	list := without(api.ECanceled, api.ERejected, api.EFill)
	state, _ := matrix.Next(api.SPending, api.EAck, 0)
	met := map[int]int{}
	for range 100000 {
		next, e := matrix.Next(state, list[r.IntN(len(list))], r.IntN(3))
		if e == api.OK {
			state = next
		}
		if !matrix.Open(state) || matrix.Done(state) || state == api.SPending {
			t.Fatalf("it is %d", state)
		}
		met[state]++
	}
	for _, s := range []int{api.SNew, api.SPartial, api.SCanceling, api.SReplacing} {
		if met[s] == 0 {
			t.Errorf("%d was never met", s)
		}
	}
}

// P20.3: whatever happens to what is done, however long, it stays what it is.
func TestLongDone(t *testing.T) {
	r := rand.New(rand.NewPCG(20, 6000))
	for _, first := range doneStates() {
		state := first
		for range 20000 {
			if next, e := matrix.Next(state, someArgument(r, events(), noEvents()), someArgument(r, cums(), noCums())); e == api.OK {
				state = next
			}
			if state != first || !matrix.Done(state) || matrix.Open(state) {
				t.Fatalf("%d is %d now", first, state)
			}
		}
	}
}
