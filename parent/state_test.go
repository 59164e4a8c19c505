package parent_test

import (
	"testing"

	"spigot/api"
)

// P28.2: Pause in each of the states.
func TestPause(t *testing.T) {
	eachStanding(t, func(x *pair, s standing) {
		if s.state != api.PWorking {
			x.want(x.pause(), api.ErrState)
			x.wantState(s.state)
			return
		}
		x.want(x.pause(), api.OK)
		x.wantState(api.PPaused)
		x.want(x.pause(), api.ErrState)
	})
}

// P28.2: Resume in each of the states.
func TestResume(t *testing.T) {
	eachStanding(t, func(x *pair, s standing) {
		if s.state != api.PPaused && s.state != api.PHalted {
			x.want(x.resume(), api.ErrState)
			x.wantState(s.state)
			return
		}
		x.want(x.resume(), api.OK)
		x.wantState(api.PWorking)
		x.want(x.resume(), api.ErrState)
	})
}

// P28.2: End in each of the states: where nothing is out it is done at once.
func TestEnd(t *testing.T) {
	eachStanding(t, func(x *pair, s standing) {
		if s.state > api.PHalted {
			x.want(x.end(), api.ErrState)
			x.wantState(s.state)
			return
		}
		x.want(x.end(), api.OK)
		if s.child {
			x.wantState(api.PEnding)
		} else {
			x.wantState(api.PCanceled)
		}
		x.want(x.end(), api.ErrState)
		x.want(x.pause(), api.ErrState)
		x.want(x.resume(), api.ErrState)
	})
}

// P28.2: what is done or ending stays so, whatever is asked.
func TestStaysDone(t *testing.T) {
	eachStanding(t, func(x *pair, s standing) {
		if s.state < api.PEnding {
			return
		}
		x.want(x.pause(), api.ErrState)
		x.want(x.resume(), api.ErrState)
		x.want(x.end(), api.ErrState)
		x.want(x.amend(200, 1000, 20, 1), api.ErrState)
		if s.state > api.PEnding {
			x.wantWork(at(3, 50))
			x.wantWork(killed(3))
			x.wantWork(at(10, 50))
		}
		x.wantState(s.state)
	})
}

// P28.2: behind Resume the streak is cleared: as many as ever are needed again, whether it was paused or halted.
func TestResumeClears(t *testing.T) {
	x := buys(t)
	x.wantWork(at(9, 1), newMove(0, "c1", 90, 1000))
	same := func(n, state int) {
		t.Helper()
		for range n {
			x.ok(x.reply(0, traded("c1", 1, 1000)))
		}
		x.wantState(state)
	}
	same(3, api.PWorking)
	x.ok(x.pause(), x.resume())
	same(3, api.PWorking)
	same(1, api.PHalted)
	x.ok(x.resume())
	same(3, api.PWorking)
	same(1, api.PHalted)
	// While it is halted they go on to be noted, and are cleared all the same.
	same(5, api.PHalted)
	x.ok(x.resume())
	same(3, api.PWorking)
	x.ok(x.pause())
	// Tripped while it is paused: it stays paused, and Resume clears that too.
	same(4, api.PPaused)
	x.ok(x.resume())
	same(3, api.PWorking)
	same(1, api.PHalted)
}

// P28.2 and P28.4: what is paused or halted sends nothing, until it is resumed.
func TestStops(t *testing.T) {
	eachStanding(t, func(x *pair, s standing) {
		switch s.state {
		case api.PPaused, api.PHalted:
			x.wantWork(at(9, 50))
			x.ok(x.resume())
			if m := x.work(at(9, 50)); len(m) != 1 || m[0].Kind != api.OrderNew {
				t.Errorf("%v", m)
			}
		case api.PWorking:
			x.ok(x.pause())
			x.wantWork(at(9, 50))
		}
	})
}
