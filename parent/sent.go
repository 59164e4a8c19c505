package parent

import (
	"spigot/api"
	"spigot/child"
)

// sent is a child, and the place of the venue that it was sent to.
type sent struct {
	*child.Child
	place int
}

// quiet says whether it is open, and nothing that was asked of it is on the way.
func (c sent) quiet() bool {
	state := c.Status().State
	return c.Open() && state != api.SCanceling && state != api.SReplacing
}

// limit is the price that an execution must have, or a better one. While a replace is on the way the venue may execute it at either price.
func (c sent) limit() int {
	x := c.Status()
	if x.Side == api.Sell && x.NextPrice != 0 {
		return min(x.Price, x.NextPrice)
	}
	return c.Cover()
}

// cancel is the move that cancels it, which is as good as sent.
func (c sent) cancel() api.Move {
	// It isn't refused: only what is quiet is canceled.
	c.Cancel()
	return api.Move{Kind: api.OrderCancel, Place: c.place, ID: c.Status().ID}
}

// replace is the move that brings it to a price, which is as good as sent.
func (c sent) replace(price int) api.Move {
	x := c.Status()
	// It isn't refused: only what the venue has is replaced, and of that something is left.
	c.Replace(x.Qty, price)
	return api.Move{Kind: api.OrderReplace, Place: c.place, ID: x.ID, Qty: x.Qty, Price: price}
}

// claims is what its children claim, together.
func (p *Parent) claims() int {
	claims := 0
	for _, c := range p.children {
		claims += c.Claim()
	}
	return claims
}

// told is what is told of its children.
func (p *Parent) told() []api.Child {
	var list []api.Child
	for _, c := range p.children {
		list = append(list, c.Status())
	}
	return list
}

// find is the child of that ID that was sent there.
func (p *Parent) find(place int, id string) (sent, bool) {
	for _, c := range p.children {
		if c.place == place && c.Status().ID == id {
			return c, true
		}
	}
	return sent{}, false
}
