package parent

import (
	"slices"
	"strconv"

	"spigot/api"
	"spigot/child"
	"spigot/router"
)

// Work is what it wants to be sent.
func (p *Parent) Work(now, volume int, killed bool, first, room int, offers []router.Offer) []api.Move {
	if !p.Open() || !within(now, 0, api.MaxTime) {
		return nil
	}
	if p.goesOn() && p.order.Over(now) {
		p.state = api.PEnding
		p.finish()
	}
	switch {
	case p.state == api.PEnding || killed:
		return p.cancelAll(now)
	case p.state != api.PWorking:
		return nil
	case p.committed() > p.order.Ask().Qty:
		return p.cancelLast(now)
	}
	moves := p.reprice(now)
	if !within(first, 0, api.MaxTime) {
		return moves
	}
	pieces := p.pieces(now, volume, offers)
	return append(moves, p.sendNew(now, first, pieces[:min(max(room, 0), len(pieces))])...)
}

// lets says whether the window lets a move through, and takes it.
func (p *Parent) lets(now int) bool {
	return p.window.Take(now) == api.OK
}

// cancelAll cancels whatever can be canceled.
func (p *Parent) cancelAll(now int) []api.Move {
	var moves []api.Move
step:
	for _, c := range p.children {
		switch {
		case !c.quiet():
		case !p.lets(now):
			break step
		default:
			moves = append(moves, c.cancel())
		}
	}
	return moves
}

// cancelLast cancels the last children, till no more than the order's quantity is kept. What is being canceled already is not.
func (p *Parent) cancelLast(now int) []api.Move {
	var moves []api.Move
	kept, qty := p.kept(), p.order.Ask().Qty
step:
	for _, c := range slices.Backward(p.children) {
		switch {
		case kept <= qty:
			break step
		case !c.quiet():
		case !p.lets(now):
			break step
		default:
			kept -= c.Claim()
			moves = append(moves, c.cancel())
		}
	}
	return moves
}

// kept is what stays committed, if all cancels that are on the way are taken.
func (p *Parent) kept() int {
	kept := p.committed()
	for _, c := range p.children {
		if c.Status().State == api.SCanceling {
			kept -= c.Claim()
		}
	}
	return kept
}

// reprice brings the children that venues have to the order's price.
func (p *Parent) reprice(now int) []api.Move {
	var moves []api.Move
	price := p.order.Ask().Price
step:
	for _, c := range p.children {
		switch x := c.Status(); {
		case x.State != api.SNew && x.State != api.SPartial || x.Price == price:
		case !p.lets(now):
			break step
		case p.venues[c.place].Replaces:
			moves = append(moves, c.replace(price))
		default:
			moves = append(moves, c.cancel())
		}
	}
	return moves
}

// pieces is what is to be sent besides, so that as much is committed as should be by now.
func (p *Parent) pieces(now, volume int, offers []router.Offer) []router.Piece {
	var known []router.Offer
	for _, o := range offers {
		if within(o.Place, 0, len(p.venues)-1) {
			known = append(known, o)
		}
	}
	// Where there is no goal it is 0. What isn't above what is committed is no quantity to split, or 0: then there are no pieces.
	goal, _ := p.order.Goal(now, volume, min(p.gone(), p.order.Ask().Qty), p.symbol.Lot)
	pieces, _ := router.Split(goal-p.committed(), p.symbol.Lot, known)
	return pieces
}

// sendNew sends a child for each piece.
func (p *Parent) sendNew(now, first int, pieces []router.Piece) []api.Move {
	var moves []api.Move
	a := p.order.Ask()
step:
	for i, piece := range pieces {
		if !p.lets(now) {
			break step
		}
		id := "c" + strconv.Itoa(first+i)
		// It isn't refused: the order was let in, and a piece is on its lot.
		c, _ := child.New(id, p.venues[piece.Place].Name, a.Side, piece.Qty, a.Price)
		p.children = append(p.children, sent{c, piece.Place})
		moves = append(moves, api.Move{Kind: api.OrderNew, Place: piece.Place, ID: id, Qty: piece.Qty, Price: a.Price})
	}
	return moves
}

func within(n, least, most int) bool {
	return n >= least && n <= most
}
