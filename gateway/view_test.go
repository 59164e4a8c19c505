package gateway_test

import (
	"strconv"
	"testing"

	"spigot/api"
)

// wantView asks for all that is told; a list without an element is as good as nil.
func (x *pair) wantView(want api.View) {
	x.t.Helper()
	if got := x.g.View(); !sameView(got, want) {
		x.t.Fatalf("View:\n%+v\nasked for\n%+v", got, want)
	}
}

// P29.6: each part of what is told, worked out by hand, from nothing to a parent that is settled and a bust of it.
func TestView(t *testing.T) {
	x := newPair(t, setup())
	v := api.View{Used: []int{0, 0}, Realised: []int{0, 0}, Faults: []int{0, 0}}
	x.wantView(v)
	a := iceberg("p")
	a.Qty, a.Show, a.Side = 20, 20, api.Sell
	x.done(x.ask(a))
	p := api.Parent{ID: "p", Account: "B", Symbol: "X", Side: api.Sell, State: api.PWorking, Algo: api.Berg, Qty: 20, Price: 1000, End: 1000, Most: 20, Need: 20200}
	v.Parents, v.Used, v.Held = []api.Parent{p}, []int{0, 20200}, []int{20200}
	x.wantView(v)
	x.ticks(1)
	v.Now = 1
	c := api.Child{ID: "c1", Venue: "V", Side: api.Sell, State: api.SPending, Qty: 20, Price: 1000, Claim: 20}
	p.Claims, p.Children = 20, []api.Child{c}
	v.Parents = []api.Parent{p}
	x.wantView(v)
	x.done(x.say("V", trades("c1", "e1", 5, 1010)))
	c.State, c.Cum, c.Claim = api.SPartial, 5, 15
	p.Claims, p.Filled, p.Worth, p.Children = 15, 5, 5050, []api.Child{c}
	v.Parents = []api.Parent{p}
	x.wantView(v)
	x.want(x.say("W", trades("c1", "e1", 5, 1000)), api.ErrUnknown, reject(2, 11, api.ErrUnknown))
	x.want(x.say("V", trades("c1", "e2", 16, 1000)), api.ErrBig, reject(1, 11, api.ErrBig))
	v.Killed, v.Faults = true, []int{1, 0}
	x.wantView(v)
	x.done(x.say("V", trades("c1", "e2", 15, 1000)))
	c.State, c.Cum, c.Claim = api.SFilled, 20, 0
	p.State, p.Claims, p.Filled, p.Worth, p.Need, p.Children = api.PFilled, 0, 20, 20050, 20050, []api.Child{c}
	v.Parents, v.Used, v.Realised, v.Held = []api.Parent{p}, []int{0, 20050}, []int{0, 20050}, []int{0}
	x.wantView(v)
	x.done(x.resume(), x.say("V", busts("c1", "b", "e1")))
	c.Qty, c.Cum = 15, 15
	p.Filled, p.Busted, p.Worth, p.Need, p.Children = 15, 5, 15000, 15000, []api.Child{c}
	v.Killed, v.Parents, v.Used, v.Realised = false, []api.Parent{p}, []int{0, 15000}, []int{0, 15000}
	x.wantView(v)
}

// P29.6: parents of several accounts and symbols, in the order of their slots.
func TestViewOfSeveral(t *testing.T) {
	b := small("a")
	b.Account = "A"
	x := begun(t, setup(), order("p"), b, sale("c"))
	x.ticks(1)
	x.done(x.ask(pauseOf("a")), x.ask(amendOf("p", 50, 1000, 10)))
	x.wantBook(0, 2000, 0, 50000, 2000, 101000)
	x.wantBook(1, 151000, 0, 50000, 2000, 101000)
	v := x.g.View()
	for i, id := range []string{"p", "a", "c"} {
		if v.Parents[i].ID != id {
			t.Errorf("%d: %+v", i, v.Parents[i])
		}
	}
	if v.Parents[1].Account != "A" || v.Parents[1].Symbol != "Y" || v.Parents[1].State != api.PPaused || v.Parents[2].Side != api.Sell || v.Parents[0].Qty != 50 {
		t.Errorf("%+v", v)
	}
}

// The reports' names go on through all kinds of reports, those of refused orders among them, and through nothing else.
func TestReportsNames(t *testing.T) {
	x := newPair(t, setup())
	n := 0
	next := func(a answer, reports int) {
		t.Helper()
		for _, text := range a.out {
			if field(text, "35") != "8" {
				continue
			}
			n++
			reports--
			if got := field(text, "17"); got != "x"+strconv.Itoa(n) {
				t.Fatalf("%s: the report %s is not the %d-th one", a.call, text, n)
			}
		}
		if reports != 0 {
			t.Fatalf("%s: %v", a.call, a.out)
		}
	}
	bad := order("bad")
	bad.Account = "Z"
	next(x.ask(bad), 1)
	next(x.ask(order("p")), 1)
	next(x.ask(order("p")), 1)
	next(x.raw("x"), 0)
	next(x.tick(), 0)
	next(x.say("V", acks("c1")), 0)
	next(x.say("V", trades("c1", "e1", 4, 1000)), 1)
	next(x.say("V", trades("c1", "e1", 4, 1000)), 0)
	next(x.say("V", busts("c1", "b1", "e1")), 1)
	next(x.say("V", busts("c1", "b2", "e1")), 0)
	next(x.ask(pauseOf("p")), 1)
	next(x.ask(pauseOf("p")), 0)
	next(x.ask(amendOf("p", 200, 1000, 10)), 1)
	next(x.ask(amendOf("p", 5, 1000, 10)), 0)
	next(x.ask(resumeOf("p")), 1)
	next(x.ask(sale("q")), 1)
	next(x.tick(), 0)
	next(x.ask(cancelOf("q")), 1)
	next(x.ask(cancelOf("nobody")), 0)
	next(x.tick(), 0)
	next(x.say("V", says(api.ReplyCanceled, "c3", "a")), 1)
	next(x.ask(cancelOf("q")), 0)
	next(x.ask(small("r")), 1)
	next(x.ask(cancelOf("r")), 2)
	next(x.say("V", trades("c1", "e2", 7, 1000)), 0)
	next(x.ask(small("s")), 1)
	x.done(x.resume())
	next(x.ask(small("s")), 1)
	next(x.ask(pauseOf("s")), 1)
	next(x.ask(cancelOf("p")), 1)
	next(x.tick(), 0)
	next(x.say("V", says(api.ReplyCanceled, "c1", "a")), 0)
	next(x.say("V", says(api.ReplyCanceled, "c4", "a")), 0)
	next(x.say("V", trades("c2", "e3", 30, 1000)), 2)
	for range 5 {
		next(x.tick(), 0)
	}
	next(x.tick(), 1) // s comes to its end by the tick.
	next(x.say("V", busts("c2", "b3", "e3")), 1)
}

// Cum and Leaves go on through trades, busts, amendments and the end; Last and Price are those of the execution alone.
func TestReportsSums(t *testing.T) {
	x := begun(t, setup(), sale("p"))
	x.done(x.tick(), x.tick(), x.tick())
	x.want(x.say("V", trades("c1", "e1", 10, 1001)), api.OK, report(2, "p", 1, 10, 1001, 10, 90, 0))
	x.want(x.say("V", trades("c2", "e2", 3, 1002)), api.OK, report(3, "p", 1, 3, 1002, 13, 87, 0))
	x.want(x.say("V", busts("c1", "b1", "e1")), api.OK, stands(4, "p", 1, 3, 87))
	x.want(x.ask(amendOf("p", 50, 1000, 10)), api.OK, stands(5, "p", 5, 3, 37))
	x.want(x.say("V", trades("c2", "e3", 7, 1010)), api.OK, report(6, "p", 1, 7, 1010, 10, 30, 0))
	x.want(x.ask(pauseOf("p")), api.OK, stands(7, "p", 9, 10, 30))
	x.want(x.say("V", busts("c2", "b2", "e3")), api.OK, stands(8, "p", 9, 3, 30))
	x.want(x.say("V", busts("c2", "b3", "e2")), api.OK, stands(9, "p", 9, 0, 30))
	x.want(x.ask(resumeOf("p")), api.OK, stands(10, "p", 0, 0, 30))
	x.want(x.ask(amendOf("p", 40, 1000, 10)), api.OK, stands(11, "p", 5, 0, 20))
	x.want(x.ask(cancelOf("p")), api.OK, stands(12, "p", 6, 0, 20))
	x.want(x.say("V", trades("c3", "e4", 1, 1000)), api.OK, report(13, "p", 1, 1, 1000, 1, 19, 0))
	x.want(x.say("V", busts("c3", "b4", "e4")), api.OK, stands(14, "p", 6, 0, 19))
	x.want(x.say("V", says(api.ReplyCanceled, "c3", "a")), api.OK, stands(15, "p", 4, 0, 0))
}

// A parent is settled just once, whatever comes behind it.
func TestSettledOnce(t *testing.T) {
	eachStanding(t, func(x *pair, s standing) {
		if s.state <= api.PEnding {
			return
		}
		v := x.g.View()
		for _, a := range asksOf("p") {
			x.want(x.ask(a), api.ErrDone, notDone("z", s.status, api.ErrDone))
		}
		for _, r := range append(repliesOf("c1", "f")[1:], busts("c1", "b", "f")) {
			x.tick()
			if got := x.say("V", r); got.e == api.OK || len(got.out) != 1 || got.out[0][:2] != "1 " {
				t.Errorf("%+v", got)
			}
		}
		x.ticks(20)
		if got := x.g.View(); got.Used[1] != v.Used[1] || got.Realised[1] != v.Realised[1] {
			t.Errorf("%+v, then %+v", v, got)
		}
	})
}
