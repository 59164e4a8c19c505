package parent

import (
	"spigot/api"
	"spigot/gate"
	"spigot/grain"
	"spigot/post"
)

// Reply is what a venue says of a child.
func (p *Parent) Reply(place int, r api.Reply) api.Errno {
	switch {
	case !p.made():
		return api.ErrNil
	case !post.RightReply(r) || r.Kind == api.ReplyBust:
		return api.ErrArg
	}
	c, ok := p.find(place, r.ID)
	if !ok {
		return api.ErrUnknown
	}
	if e := p.hear(c, r); e != api.OK {
		return e
	}
	p.finish()
	return api.OK
}

// hear lets a child be what its venue says of it.
func (p *Parent) hear(c sent, r api.Reply) api.Errno {
	switch r.Kind {
	case api.ReplyNew:
		return c.Ack()
	case api.ReplyCanceled:
		return c.Canceled()
	case api.ReplyReplaced:
		return c.Replaced()
	case api.ReplyRejected:
		return c.Rejected()
	case api.ReplyRefused:
		return c.Refused()
	default:
		return p.trade(c, r.Qty, r.Price)
	}
}

// trade is an execution of a child.
func (p *Parent) trade(c sent, qty, price int) api.Errno {
	switch {
	case !c.Open():
		return api.ErrState
	case !gate.Fill(p.symbol, c.Status().Side, c.limit(), price):
		return api.ErrBand
	}
	if e := c.Trade(qty); e != api.OK {
		return e
	}
	// It has room: it is part of the need.
	worth, _ := grain.Worth(qty, price)
	p.filled += qty
	p.worth += worth
	if p.streak.Note(c.place, qty, price) && p.state == api.PWorking {
		p.state = api.PHalted
	}
	return api.OK
}

// Bust is an execution that is taken back.
func (p *Parent) Bust(place int, id string, qty, price int) api.Errno {
	if !p.made() {
		return api.ErrNil
	}
	c, ok := p.find(place, id)
	if !ok {
		return api.ErrUnknown
	}
	if !within(qty, 1, p.filled) || !within(price, 1, api.MaxPrice) {
		return api.ErrArg
	}
	// What has no room in 64 bits is above any worth.
	worth, e := grain.Worth(qty, price)
	if e != api.OK || worth > p.worth {
		return api.ErrArg
	}
	if e := c.Bust(qty); e != api.OK {
		return e
	}
	p.filled -= qty
	p.worth -= worth
	p.busted += qty
	return api.OK
}
