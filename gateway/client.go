package gateway

import (
	"spigot/api"
	"spigot/ask"
	"spigot/parent"
	"spigot/wire"
)

// Client is what a client sends.
func (g *Gateway) Client(bytes string) ([]api.Out, api.Errno) {
	if !g.made() {
		return nil, api.ErrNil
	}
	a, tag, e := read(bytes, ask.Decode)
	switch {
	case e != api.OK:
		return refused(toClient, tag, e), e
	case a.Kind == api.AskNew:
		return g.enter(a)
	}
	return g.change(a)
}

// read is what the one message says that bytes are, or what is wrong with it, beside the tag where it is: 0, if they aren't one message.
func read[T any](bytes string, decode func(body string) (T, int, api.Errno)) (said T, tag int, e api.Errno) {
	body, n, e := wire.Open(bytes)
	switch {
	case e != api.OK:
		return said, 0, e
	case n != len(bytes):
		return said, 0, api.ErrSpare
	}
	return decode(body)
}

// enter lets a new order be a parent.
func (g *Gateway) enter(a api.Ask) ([]api.Out, api.Errno) {
	slot := len(g.parents)
	p, e := g.fits(a)
	if e == api.OK {
		e = g.book.Reserve(p.account, slot, p.Need())
	}
	if e != api.OK {
		return g.newRefused(a.ID, e), e
	}
	// It isn't refused: the name is new, and there is room. No name is dropped, so that it has just this slot.
	g.ids.Put(a.ID)
	g.parents = append(g.parents, p)
	return g.reportOwn(slot), api.OK
}

// fits is the parent that a new order would be, as far as all but the book is asked.
func (g *Gateway) fits(a api.Ask) (order, api.Errno) {
	s := g.rules.Setup()
	account, hasAccount := g.rules.Account(a.Account)
	symbol, hasSymbol := g.rules.Symbol(a.Symbol)
	_, twice := g.ids.Find(a.ID)
	switch {
	case g.killed:
		return order{}, api.ErrKilled
	case !hasAccount || !hasSymbol:
		return order{}, api.ErrUnknown
	case twice:
		return order{}, api.ErrTwice
	case len(g.parents) >= s.Parents:
		return order{}, api.ErrFull
	case a.End <= g.now:
		return order{}, api.ErrTime
	}
	p, e := parent.New(a, s.Symbols[symbol], s, g.tape.Total(symbol))
	return order{p, account, symbol}, e
}

// change does to a parent what is asked.
func (g *Gateway) change(a api.Ask) ([]api.Out, api.Errno) {
	slot, ok := g.ids.Find(a.Target)
	if !ok {
		return cancelRefused(a.ID, statusRefused, api.ErrUnknown), api.ErrUnknown
	}
	status, e := g.do(deedOf(a), slot)
	if e != api.OK {
		return cancelRefused(a.ID, ownStatus(g.parents[slot].Status()), e), e
	}
	return append(g.report(slot, status, 0, 0), g.settle(slot)...), api.OK
}

// do does a deed to a parent that isn't done.
func (g *Gateway) do(d deed, slot int) (status int, e api.Errno) {
	if !g.parents[slot].Open() {
		return 0, api.ErrDone
	}
	return d.do(g, slot)
}
