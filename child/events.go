package child

import (
	"spigot/api"
	"spigot/matrix"
)

// Ack is that the venue has it.
func (c *Child) Ack() api.Errno {
	return c.happen(api.EAck, 0, 0)
}

// Canceled is that it is gone.
func (c *Child) Canceled() api.Errno {
	return c.happen(api.ECanceled, 0, 0)
}

// Rejected is that the venue doesn't take it.
func (c *Child) Rejected() api.Errno {
	return c.happen(api.ERejected, 0, 0)
}

// Cancel is that a cancel is sent.
func (c *Child) Cancel() api.Errno {
	return c.happen(api.ECancel, 0, 0)
}

// Replace is that a replace is sent.
func (c *Child) Replace(qty, price int) api.Errno {
	switch {
	case !c.made():
		return api.ErrNil
	case qty <= c.cum || qty > api.MaxQty || !upTo(price, api.MaxPrice):
		return api.ErrArg
	}
	return c.happen(api.EReplace, qty, price)
}

// Replaced is that the replace was made.
func (c *Child) Replaced() api.Errno {
	return c.happen(api.EReplaced, 0, 0)
}

// Refused is that a cancel or a replace was refused.
func (c *Child) Refused() api.Errno {
	return c.happen(api.ERefused, 0, 0)
}

// Trade is an execution.
func (c *Child) Trade(qty int) api.Errno {
	switch {
	case !c.made():
		return api.ErrNil
	case qty < 1:
		return api.ErrArg
	case !c.Open():
		return api.ErrState
	case qty > c.Claim():
		return api.ErrBig
	case qty == c.Claim():
		return c.happen(api.EFill, qty, 0)
	}
	return c.happen(api.ETrade, qty, 0)
}

// Bust is an execution that is taken back.
func (c *Child) Bust(qty int) api.Errno {
	switch {
	case !c.made():
		return api.ErrNil
	case !upTo(qty, c.cum):
		return api.ErrArg
	}
	return c.happen(api.EBust, qty, 0)
}

// happen lets an event happen, with a quantity and a price where it has them. What is behind it is worked out beside the child, so that a refused one changes nothing.
func (c *Child) happen(event, qty, price int) api.Errno {
	if !c.made() {
		return api.ErrNil
	}
	after := c.behind(event, qty, price)
	state, e := matrix.Next(c.state, event, after.cum)
	if e != api.OK {
		return e
	}
	c.told = after.in(state, event)
	return api.OK
}

// behind is what is told behind an event, but for the state.
func (t told) behind(event, qty, price int) told {
	switch event {
	case api.ETrade, api.EFill:
		t.cum += qty
	case api.EBust:
		t.cum -= qty
		t.qty -= qty
		t.nextQty -= qty
	case api.EReplace:
		t.nextQty, t.nextPrice = qty, price
	case api.EReplaced:
		t.qty, t.price = t.nextQty, t.nextPrice
	}
	return t
}

// in is what is told in the state that layer 20 has behind an event. Layer 20 doesn't know the quantity: that nothing is left of it behind an answer is seen here.
func (t told) in(state, event int) told {
	t.state = state
	if (event == api.EReplaced || event == api.ERefused) && t.cum >= t.qty {
		t.state = api.SFilled
	}
	if t.state != api.SReplacing {
		t.nextQty, t.nextPrice = 0, 0
	}
	return t
}
