package parent

import (
	"spigot/api"
	"spigot/checked"
	"spigot/gate"
	"spigot/grain"
)

// Need is what it may be worth at the worst.
func (p *Parent) Need() int {
	if !p.made() {
		return 0
	}
	a := p.order.Ask()
	// It has room: New and Would let no order be that needs more than MaxLimit, and nothing else makes the need greater.
	need, _ := p.needOf(a.Qty, a.Price)
	return need
}

// Would is what it may be worth at the worst, if it were amended so.
func (p *Parent) Would(qty, price, end, now int) (need int, e api.Errno) {
	if !p.made() {
		return 0, api.ErrNil
	}
	a := p.order.Ask()
	if !p.goesOn() || qty == a.Qty && price == a.Price && end == a.End {
		return 0, api.ErrState
	}
	if _, _, e := gate.Check(p.symbol, a.Side, qty, price); e != api.OK {
		return 0, e
	}
	switch {
	case qty < p.gone():
		return 0, api.ErrQty
	case end <= max(now, a.Start) || end > api.MaxTime || end-a.Start > api.MaxSpan:
		return 0, api.ErrTime
	}
	need, e = p.needOf(qty, price)
	if e != api.OK || need > api.MaxLimit {
		return 0, api.ErrNotional
	}
	return need, api.OK
}

// Amend changes the order.
func (p *Parent) Amend(qty, price, end, now int) api.Errno {
	if _, e := p.Would(qty, price, end, now); e != api.OK {
		return e
	}
	// It isn't refused: Would looked at all of it.
	p.order.Amend(qty, price, end)
	p.most = max(p.most, qty)
	p.finish()
	return api.OK
}

// needOf is its need with another quantity and another price; ErrOver, if it has no room in 64 bits.
func (p *Parent) needOf(qty, price int) (int, api.Errno) {
	side := p.order.Ask().Side
	worst := grain.Worst(side, price, p.high)
	need := p.worth
	for _, c := range p.children {
		n, e := with(need, c.Claim(), max(grain.Worst(side, c.Cover(), p.high), worst))
		if e != api.OK {
			return 0, e
		}
		need = n
	}
	return with(need, max(qty-p.committed(), 0), worst)
}

// with is a worth, and besides what a quantity is worth at a price.
func with(worth, qty, price int) (int, api.Errno) {
	more, e := checked.Mul(qty, price)
	if e != api.OK {
		return 0, e
	}
	return checked.Add(worth, more)
}
