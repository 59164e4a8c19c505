package gateway

import (
	"testing"

	"spigot/api"
	"spigot/ask"
	"spigot/post"
	"spigot/wire"
)

// P29.2: the last tick, which nobody can wait for: a gateway is set just ahead of it. Behind it there is none: ErrTime, nothing goes out, and no parent works.
func TestLastTick(t *testing.T) {
	g, _ := New(api.Setup{
		Accounts: []api.Account{{Name: "A", Limit: 150000}},
		Symbols:  []api.Symbol{{Name: "X", Lot: 10, Tick: 5, Middle: 1000, Width: 100, Most: 1000, Worth: 1000000}},
		Venues:   []api.Venue{{Name: "V", Lot: 10, Shown: 100, Replaces: true}},
		Parents:  2, Children: 8, Execs: 50, Window: 5, Most: 4, Repeat: 4,
	})
	g.now = api.MaxTime - 2
	body, _ := ask.Encode(api.Ask{Kind: api.AskNew, ID: "p", Account: "A", Symbol: "X", Side: api.Buy, Qty: 100, Price: 1000, Algo: api.Berg, Start: api.MaxTime - 10, End: api.MaxTime, Show: 20})
	bytes, _ := wire.Seal(body)
	if _, e := g.Client(bytes); e != api.OK {
		t.Fatal(e)
	}
	for _, now := range []int{api.MaxTime - 1, api.MaxTime} {
		if out, e := g.Tick(); len(out) != 1 || e != api.OK || g.View().Now != now {
			t.Fatalf("%+v, %d, %+v", out, e, g.View())
		}
	}
	if s := g.View().Parents[0].State; s != api.PEnding {
		t.Errorf("the state %d", s)
	}
	// Its cancel is refused: if it worked, it would send another one.
	body, _ = post.EncodeReply(api.Reply{Kind: api.ReplyRefused, Seq: 1, ID: "c1"})
	refused, _ := wire.Seal(body)
	if out, e := g.Venue("V", refused); len(out) != 0 || e != api.OK {
		t.Fatalf("%+v, %d", out, e)
	}
	for range 3 {
		if out, e := g.Tick(); len(out) != 0 || e != api.ErrTime || g.View().Now != api.MaxTime {
			t.Fatalf("%+v, %d, %+v", out, e, g.View())
		}
	}
}
