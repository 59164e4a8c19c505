package gateway

import (
	"spigot/api"
)

// deed is what an ask does to a parent: it answers the status that the report of it has, or why it isn't done.
type deed interface {
	do(g *Gateway, slot int) (status int, e api.Errno)
}

// The deeds, one type for each kind of ask that is about a parent.
type (
	cancel struct{}
	pause  struct{}
	resume struct{}
	amend  struct{ qty, price, end int }
)

// deedOf is what an ask does that is about a parent.
func deedOf(a api.Ask) deed {
	switch a.Kind {
	case api.AskCancel:
		return cancel{}
	case api.AskPause:
		return pause{}
	case api.AskResume:
		return resume{}
	}
	// AskAmend: there is no other one.
	return amend{a.Qty, a.Price, a.End}
}

func (cancel) do(g *Gateway, slot int) (status int, e api.Errno) {
	return statusEnding, g.parents[slot].End()
}

func (pause) do(g *Gateway, slot int) (status int, e api.Errno) {
	return statusStopped, g.parents[slot].Pause()
}

func (resume) do(g *Gateway, slot int) (status int, e api.Errno) {
	if g.killed {
		return 0, api.ErrKilled
	}
	p := g.parents[slot]
	e = p.Resume()
	return ownStatus(p.Status()), e
}

// The book is asked between what the parent would need and the amendment itself, so that what it refuses changes nothing.
func (a amend) do(g *Gateway, slot int) (status int, e api.Errno) {
	p := g.parents[slot]
	need, e := p.Would(a.qty, a.price, a.end, g.now)
	if e != api.OK {
		return 0, e
	}
	if e := g.book.Resize(slot, need); e != api.OK {
		return 0, e
	}
	return statusAmended, p.Amend(a.qty, a.price, a.end, g.now)
}
