package gateway_test

import (
	"strconv"
	"testing"

	"spigot/api"
)

// algos are an order of each algorithm, of 100 of X at 1000, that ends at 200.
func algos(side int) []api.Ask {
	var list []api.Ask
	for algo := api.Twap; algo <= api.Berg; algo++ {
		a := order("p")
		a.Side, a.Algo, a.End = side, algo, 200
		switch algo {
		case api.Vwap:
			a.Curve = []int{1, 3, 0, 2}
		case api.Flow:
			a.Rate = 2500
		case api.Berg:
			a.Show = 20
		}
		list = append(list, a)
	}
	return list
}

// drive lets a gateway work on an order with venues that answer at once: each new order is filled in two parts. It answers how many ticks went by till it was done.
func drive(t *testing.T, x *pair) int {
	t.Helper()
	n := 0
	for now := 1; now <= 201; now++ {
		x.done(x.print("X", 7))
		for _, text := range x.tick().out {
			if field(text, "35") != "D" {
				continue
			}
			venue := x.m.s.Venues[text[0]-'1'].Name
			qty, _ := strconv.Atoi(field(text, "38"))
			price, _ := strconv.Atoi(field(text, "44"))
			n++
			id := field(text, "11")
			x.done(x.say(venue, acks(id)), x.say(venue, trades(id, "e"+strconv.Itoa(n), qty-1, price)), x.say(venue, trades(id, "f"+strconv.Itoa(n), 1, price)))
		}
		if x.parent("p").State > api.PEnding {
			return now
		}
	}
	return 0
}

// W10: each algorithm, on either side, is driven to its end: filled, what it was worth being realised, and its position there.
func TestDriven(t *testing.T) {
	for _, side := range []int{api.Buy, api.Sell} {
		for _, a := range algos(side) {
			for _, most := range []int{1, 2, 1024} {
				s := setup()
				s.Window, s.Most, s.Children = 3, most, 40
				x := begun(t, s, a)
				n := drive(t, x)
				x.wantState("p", api.PFilled)
				x.wantBook(1, 100000, 100000, 0)
				net := 100
				if side == api.Sell {
					net = -100
				}
				x.wantNet(1, 0, net)
				if n == 0 || n >= 200 {
					t.Errorf("%+v: %d ticks", a, n)
				}
			}
		}
	}
}

// W10: several at a time, of both accounts and symbols, all driven to their ends.
func TestDrivenTogether(t *testing.T) {
	s := setup()
	s.Parents, s.Children = 8, 200
	s.Window, s.Most, s.Repeat, s.Execs = 2, 3, 1024, 1000
	s.Accounts[0].Limit = 1000000
	x := newPair(t, s)
	for _, side := range []int{api.Sell, api.Buy} {
		for i, a := range algos(side) {
			a.ID, a.Account = "p", "A"
			if i > 0 || side == api.Buy {
				a.ID, a.Account = strconv.Itoa(side)+strconv.Itoa(i), "B"
			}
			x.done(x.ask(a))
		}
	}
	drive(t, x)
	for range 100 {
		x.done(x.print("X", 7))
		for _, text := range x.tick().out {
			if field(text, "35") == "D" {
				qty, _ := strconv.Atoi(field(text, "38"))
				x.done(x.say(x.m.s.Venues[text[0]-'1'].Name, trades(field(text, "11"), "g"+field(text, "11"), qty, 1000)))
			}
		}
	}
	for _, p := range x.g.View().Parents {
		if p.State != api.PFilled || p.Filled != 100 {
			t.Errorf("%+v", p)
		}
	}
	x.wantNet(0, 0, -100)
	x.wantNet(1, 0, 100)
	x.wantBook(0, 100000, 100000, 0, 0, 0, 0, 0, 0, 0, 0)
	x.wantBook(1, 700000, 700000, 0, 0, 0, 0, 0, 0, 0, 0)
}

// W10: an order of which nothing is filled comes to its end, too, by its time.
func TestDrivenUnfilled(t *testing.T) {
	for _, side := range []int{api.Buy, api.Sell} {
		for _, a := range algos(side) {
			x := begun(t, setup(), a)
			for range 199 {
				x.done(x.print("X", 7), x.tick())
			}
			x.wantState("p", api.PWorking)
			out := x.tick().out
			x.wantState("p", api.PEnding)
			for _, text := range out {
				x.done(x.say("V", says(api.ReplyCanceled, field(text, "11"), "a")))
			}
			x.wantState("p", api.PCanceled)
			x.wantBook(1, 0, 0, 0)
		}
	}
}

// W9: with the narrowest window, as many children out as there may be, and a replace on the way, the end takes nearly all of Quiet's ticks, and no more.
func TestEndsInTime(t *testing.T) {
	for _, most := range []int{1, 2, 7} {
		s := setup()
		s.Window, s.Most, s.Children = 5, most, 20
		a := order("p")
		a.Qty, a.End = 1000, 1000
		x := begun(t, s, a)
		for range 600 {
			for _, text := range x.tick().out {
				x.done(x.say("V", acks(field(text, "11"))))
			}
		}
		p := x.parent("p")
		if len(p.Children) != 20 || p.Claims == 0 {
			t.Fatalf("%+v", p)
		}
		x.done(x.ask(amendOf("p", 1000, 995, 1000)), x.tick(), x.ask(cancelOf("p")))
		n := 0
		for ; x.parent("p").State == api.PEnding; n++ {
			for _, c := range x.parent("p").Children {
				switch c.State {
				case api.SCanceling:
					x.done(x.say("V", says(api.ReplyCanceled, c.ID, "a")))
				case api.SReplacing:
					x.done(x.say("V", says(api.ReplyRefused, c.ID, "")))
				}
			}
			x.done(x.tick())
		}
		if n > x.g.Quiet() || most == 1 && n < x.g.Quiet()-20 {
			t.Errorf("with %d in %d ticks: %d of %d ticks", most, s.Window, n, x.g.Quiet())
		}
		x.wantState("p", api.PCanceled)
		x.wantBook(1, 0, 0, 0)
	}
}
