package gateway

import (
	"spigot/api"
	"spigot/post"
)

// The tags at which a reply is refused that is right in itself.
const (
	tagID  = 11
	tagSeq = 34
)

// Venue is what a venue sends.
func (g *Gateway) Venue(name, bytes string) ([]api.Out, api.Errno) {
	if !g.made() {
		return nil, api.ErrNil
	}
	place, ok := g.rules.Venue(name)
	if !ok {
		return nil, api.ErrUnknown
	}
	r, tag, e := read(bytes, post.DecodeReply)
	if e != api.OK {
		return refused(toVenue(place), tag, e), e
	}
	if e := g.venues[place].Take(r.Seq); e != api.OK {
		return refused(toVenue(place), tagSeq, e), e
	}
	out, e := g.hear(place, r)
	if e != api.OK {
		if isFault(r, e) {
			g.venues[place].Fault()
			g.killed = true
		}
		return refused(toVenue(place), tagID, e), e
	}
	return out, api.OK
}

// isFault says whether a venue that says what is refused so isn't to be trusted any more: it has executed what it could not.
func isFault(r api.Reply, e api.Errno) bool {
	switch e {
	case api.ErrState, api.ErrBand, api.ErrBig, api.ErrFull:
		return r.Kind == api.ReplyTrade
	}
	return false
}

// hear lets a venue's reply be what it says of a child.
func (g *Gateway) hear(place int, r api.Reply) ([]api.Out, api.Errno) {
	slot, ok := g.children[r.ID]
	if !ok {
		return nil, api.ErrUnknown
	}
	var out []api.Out
	var e api.Errno
	switch r.Kind {
	case api.ReplyTrade:
		out, e = g.trade(place, slot, r)
	case api.ReplyBust:
		out, e = g.bust(place, slot, r)
	default:
		e = g.parents[slot].Reply(place, r)
	}
	if e != api.OK {
		return nil, e
	}
	return append(out, g.settle(slot)...), api.OK
}

// trade is an execution of a parent's child.
func (g *Gateway) trade(place, slot int, r api.Reply) ([]api.Out, api.Errno) {
	p := g.parents[slot]
	if e := g.isNew(place, r.Exec); e != api.OK {
		return nil, e
	}
	if e := p.Reply(place, r); e != api.OK {
		return nil, e
	}
	// Neither is refused: the name is new, and what the account has executed is worth no more than its limit.
	g.venues[place].seen.Put(r.Exec, api.Exec{Order: r.ID, Qty: r.Qty, Price: r.Price})
	g.positions.Fill(p.account, p.symbol, p.Status().Side, r.Qty, r.Price)
	return g.report(slot, statusPartial, r.Qty, r.Price), api.OK
}

// bust is an execution of a parent's child that is taken back.
func (g *Gateway) bust(place, slot int, r api.Reply) ([]api.Out, api.Errno) {
	p, v := g.parents[slot], g.venues[place]
	if e := g.isNew(place, r.Exec); e != api.OK {
		return nil, e
	}
	// What wasn't seen has no order, and neither has a bust that was.
	x, _ := v.seen.Get(r.Ref)
	switch {
	case x.Order != r.ID:
		return nil, api.ErrUnknown
	case x.Busted:
		return nil, api.ErrTwice
	}
	if e := p.Bust(place, r.ID, x.Qty, x.Price); e != api.OK {
		return nil, e
	}
	// None of these is refused: what is taken back was taken once, and only once.
	v.seen.Bust(r.Ref)
	v.seen.Put(r.Exec, api.Exec{})
	g.positions.Bust(p.account, p.symbol, p.Status().Side, x.Qty, x.Price)
	g.giveBack(slot, x.Qty*x.Price)
	return g.reportOwn(slot), api.OK
}

// isNew says what is wrong with a name that an execution of a venue has.
func (g *Gateway) isNew(place int, exec string) api.Errno {
	m := g.venues[place].seen
	if _, met := m.Get(exec); met {
		return api.ErrTwice
	}
	if m.Count() >= g.rules.Setup().Execs {
		return api.ErrFull
	}
	return api.OK
}

// giveBack lets the book have back what a parent's execution was worth: of what it holds for the parent, or of what was realised, if that was settled. (It is no more than either.)
func (g *Gateway) giveBack(slot, worth int) {
	if _, amount, held := g.book.Held(slot); held {
		g.book.Resize(slot, amount-worth)
	} else {
		g.book.Undo(g.parents[slot].account, worth)
	}
}
