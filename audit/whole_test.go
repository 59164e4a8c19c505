package audit_test

import (
	"testing"

	"spigot/api"
	"spigot/gateway"
)

// exampleRun is a run over a gateway of the document's ten examples, whose order P it takes.
func exampleRun(t *testing.T) *run {
	t.Helper()
	s := setup()
	s.Accounts, s.Symbols, s.Venues = s.Accounts[:1], s.Symbols[:1], s.Venues[:1]
	s.Parents, s.Children = 2, 8
	g, e := gateway.New(s)
	if e != api.OK {
		t.Fatal(e)
	}
	x := &run{t: t, s: s, g: g, view: g.View(), taken: []int{0}, met: map[string]int{}}
	x.order("p")
	return x
}

func (x *run) order(id string) {
	x.t.Helper()
	x.ask("new", api.Ask{Kind: api.AskNew, ID: id, Account: "A", Symbol: "X", Side: api.Buy, Qty: 100, Price: 1000, Algo: api.Twap, End: 10})
}

func (x *run) tick() {
	x.t.Helper()
	_, e := x.g.Tick()
	x.happened("tick", e)
}

// says lets the venue say something with the next number.
func (x *run) says(kind, qty, price int, exec, ref string) {
	x.t.Helper()
	x.taken[0]++
	bytes := x.reported(api.Reply{Kind: kind, Seq: x.taken[0], ID: "c1", Exec: exec, Qty: qty, Price: price, Ref: ref})
	_, e := x.g.Venue("V", bytes)
	x.happened("reply", e)
}

// wantHeld holds what is held for the first parent, what is used and what is realised.
func (x *run) wantHeld(held, used, realised int) {
	x.t.Helper()
	if v := x.view; v.Held[0] != held || v.Used[0] != used || v.Realised[0] != realised {
		x.t.Errorf("held %d, used %d, realised %d; asked for %d, %d, %d", v.Held[0], v.Used[0], v.Realised[0], held, used, realised)
	}
}

// W1: in the document's ten examples each single thing is one that the rules allow.
func TestTenExamples(t *testing.T) {
	x := exampleRun(t)
	x.wantHeld(100000, 100000, 0)
	x.order("p")
	x.order("q")
	x.wantHeld(100000, 100000, 0)

	x.tick()
	x.says(api.ReplyTrade, 10, 995, "e", "")
	x.wantHeld(100000, 100000, 0)
	x.says(api.ReplyTrade, 11, 995, "f", "")
	x.tick()

	x = exampleRun(t)
	x.tick()
	x.says(api.ReplyTrade, 11, 995, "e", "")
	if !x.view.Killed || x.view.Faults[0] != 1 {
		t.Errorf("%+v", x.view)
	}
	x.tick()
	x.says(api.ReplyCanceled, 0, 0, "a", "")
	x.wantHeld(100000, 100000, 0)

	x = exampleRun(t)
	x.ask("cancel", api.Ask{Kind: api.AskCancel, ID: "z", Target: "p"})
	x.wantHeld(0, 0, 0)
	_, e := x.g.Client("x")
	x.happened("bytes", e)

	x = exampleRun(t)
	for range 2 {
		x.ask("pause", api.Ask{Kind: api.AskPause, ID: "z", Target: "p"})
	}
	x.tick()
	x.happened("kill", x.g.Kill())
	x.order("q")
}

// W1: a bust of one that works, and of one that is done: what is held, and what was realised, is so much less.
func TestBusts(t *testing.T) {
	x := exampleRun(t)
	x.tick()
	x.says(api.ReplyTrade, 4, 995, "e", "")
	x.says(api.ReplyTrade, 6, 1000, "f", "")
	x.says(api.ReplyBust, 0, 0, "g", "e")
	x.wantHeld(96020, 96020, 0)
	x.ask("cancel", api.Ask{Kind: api.AskCancel, ID: "z", Target: "p"})
	x.wantHeld(0, 6000, 6000)
	x.says(api.ReplyBust, 0, 0, "h", "f")
	x.wantHeld(0, 0, 0)
	x.says(api.ReplyBust, 0, 0, "k", "f")
	x.wantHeld(0, 0, 0)
}
