package session_test

import (
	"testing"

	"spigot/api"
)

// someSeqs are numbers that a reply may come with.
func someSeqs() []int {
	return []int{leastInt, leastInt + 1, -api.MaxTime, -2, -1, 0, 1, 2, 3, 1 << 32, 1<<32 + 1, api.MaxTime, api.MaxTime + 1, greatestInt - 1, greatestInt}
}

// refusesAround asks for all numbers but the next one, those right about it among them.
func (x *pair) refusesAround() {
	x.t.Helper()
	last := x.p.taken
	for _, seq := range append(someSeqs(), last-1, last, last+2, last+3) {
		switch {
		case seq <= last:
			x.wantTake(seq, api.ErrSeq)
		case seq > last+1:
			x.wantTake(seq, api.ErrGap)
		}
	}
}

// P22.3: the first one is 1, each is taken behind the one ahead of it, up and down, with faults and without; all others are told apart, and change nothing.
func TestTake(t *testing.T) {
	x := newPair(t, 1)
	for i := range 40 {
		x.turn(i%3 == 1)
		if i == 20 {
			x.fault()
		}
		x.refusesAround()
		x.wantTake(i+1, api.OK)
		x.wantTake(i+1, api.ErrSeq)
		x.refusesAround()
		if x.s.Taken() != i+1 {
			t.Fatalf("Taken: %d behind %d", x.s.Taken(), i+1)
		}
	}
}

// P22.3: numbers go there and back apart from each other: neither what is sent nor what waits is asked for.
func TestThereAndBack(t *testing.T) {
	x := newPair(t, 2)
	x.wantTake(1, api.OK)
	x.wantTake(2, api.OK)
	x.wantSend(cancelOf("a"), api.OK)
	x.wantSend(cancelOf("b"), api.OK)
	x.wantTake(2, api.ErrSeq)
	x.wantTake(4, api.ErrGap)
	x.wantPop(cancelOf("a"), 1)
	x.wantSend(cancelOf("c"), api.OK)
	x.wantTake(3, api.OK)
	x.wantPop(cancelOf("b"), 2)
	x.wantPop(cancelOf("c"), 3)
	x.wantTake(4, api.OK)
	x.wantSend(cancelOf("d"), api.OK)
	x.wantPop(cancelOf("d"), 4)
}

// P22.3: many, one behind the other.
func TestTakeMany(t *testing.T) {
	x := newPair(t, 1)
	for i := range 5000 {
		x.wantTake(i+1, api.OK)
	}
	x.refusesAround()
}

// P22.4: one more each time; whatever is done behind it, it stays counted, and it is not healthy any more.
func TestFault(t *testing.T) {
	x := newPair(t, 2)
	for i := range 300 {
		x.fault()
		if x.s.Faults() != i+1 || x.s.Healthy() {
			t.Fatalf("Faults: %d behind %d, Healthy: %v", x.s.Faults(), i+1, x.s.Healthy())
		}
		x.turn(i%2 == 0)
	}
	x.turn(false)
	x.wantSend(cancelOf("c"), api.OK)
	x.wantPop(cancelOf("c"), 1)
	x.wantTake(1, api.OK)
	if x.s.Faults() != 300 || x.s.Healthy() {
		t.Fatalf("Faults: %d, Healthy: %v", x.s.Faults(), x.s.Healthy())
	}
}

// P22.4: down and up, each also twice; what waits and what was counted stays as it is.
func TestDownAndUp(t *testing.T) {
	for _, faults := range []int{0, 1, 3} {
		x := newPair(t, 3)
		x.wantSend(cancelOf("a"), api.OK)
		x.wantSend(cancelOf("b"), api.OK)
		x.wantTake(1, api.OK)
		for range faults {
			x.fault()
		}
		for _, down := range []bool{false, false, true, true, false, true, false, false} {
			x.turn(down)
			if x.s.Healthy() != (!down && faults == 0) || x.s.Faults() != faults {
				t.Fatalf("down %v, %d faults: Healthy: %v, Faults: %d", down, faults, x.s.Healthy(), x.s.Faults())
			}
			if down {
				x.wantSend(cancelOf("c"), api.ErrDown)
			}
		}
		x.wantPop(cancelOf("a"), 1)
		x.wantSend(cancelOf("c"), api.OK)
		x.wantPop(cancelOf("b"), 2)
		x.wantPop(cancelOf("c"), 3)
		x.wantTake(2, api.OK)
	}
}

// P22.4: what is refused is no fault, and leaves it up.
func TestRefusedIsNoFault(t *testing.T) {
	x := newPair(t, 1)
	x.wantEmpty()
	x.refusesAround()
	x.wantSend(api.Order{}, api.ErrArg)
	x.wantSend(cancelOf("c"), api.OK)
	x.wantSend(cancelOf("c"), api.ErrFull)
	if !x.s.Healthy() || x.s.Faults() != 0 {
		t.Fatalf("Healthy: %v, Faults: %d", x.s.Healthy(), x.s.Faults())
	}
}
