package gateway

import (
	"spigot/api"
	"spigot/post"
	"spigot/router"
)

// Tick lets time go by.
func (g *Gateway) Tick() ([]api.Out, api.Errno) {
	switch {
	case !g.made():
		return nil, api.ErrNil
	case g.now >= api.MaxTime:
		return nil, api.ErrTime
	}
	g.now++
	var out []api.Out
	offers := g.offers()
	for slot := range g.parents {
		out = append(out, g.work(slot, offers)...)
	}
	return out, api.OK
}

// offers are the venues as the router sees them. No venue's health changes within a tick, so that they hold for all of its parents.
func (g *Gateway) offers() []router.Offer {
	var list []router.Offer
	for i, v := range g.rules.Setup().Venues {
		list = append(list, router.Offer{Place: i, Lot: v.Lot, Fee: v.Fee, Shown: v.Shown, Healthy: g.venues[i].Healthy()})
	}
	return list
}

// work lets a parent work.
func (g *Gateway) work(slot int, offers []router.Offer) []api.Out {
	p, made := g.parents[slot], len(g.children)
	room := g.rules.Setup().Children - made
	var out []api.Out
	for _, m := range p.Work(g.now, g.tape.Total(p.symbol), g.killed, made+1, room, offers) {
		if m.Kind == api.OrderNew {
			g.children[m.ID] = slot
		}
		out = append(out, g.send(p, m))
	}
	return append(out, g.settle(slot)...)
}

// send is a parent's move as a message to its venue.
func (g *Gateway) send(p order, m api.Move) api.Out {
	o := api.Order{Kind: m.Kind, ID: m.ID, Qty: m.Qty, Price: m.Price}
	if m.Kind == api.OrderNew {
		s := p.Status()
		o.Symbol, o.Side = s.Symbol, s.Side
	}
	v := g.venues[m.Place]
	// None of these is refused: the move is a parent's, the session never is down, and nothing waits in it.
	v.Send(o)
	o, _ = v.Pop()
	body, _ := post.EncodeOrder(o)
	return sealed(toVenue(m.Place), body)
}
