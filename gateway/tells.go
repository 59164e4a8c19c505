package gateway

import (
	"strconv"

	"spigot/api"
	"spigot/tell"
	"spigot/wire"
)

// What a client is told of how a parent stands, or of what was done to it.
const (
	statusNew      = 0
	statusPartial  = 1
	statusFilled   = 2
	statusCanceled = 4
	statusAmended  = 5
	statusEnding   = 6
	statusRefused  = 8
	statusStopped  = 9
)

// toClient is where what a client is told goes to.
const toClient = 0

// toVenue is where what the venue at a place is sent goes to.
func toVenue(place int) int {
	return place + 1
}

// sealed is a body that goes out.
func sealed(to int, body string) api.Out {
	// It isn't refused: whatever the gateway says is fields, and short.
	text, _ := wire.Seal(body)
	return api.Out{To: to, Text: text}
}

// told is a tell that goes out.
func told(to int, t api.Tell) []api.Out {
	// It isn't refused: its names are those of what was read, and its numbers are within their limits.
	body, _ := tell.Encode(t)
	return []api.Out{sealed(to, body)}
}

// refused is that bytes are refused, at a tag of them. What has a kind that isn't met here is told by a kind of its own.
func refused(to, tag int, e api.Errno) []api.Out {
	kind := api.TellReject
	if e == api.ErrType {
		kind = api.TellOther
	}
	return told(to, api.Tell{Kind: kind, Tag: tag, Reason: int(e)})
}

// cancelRefused is that what an ask would do to a parent isn't done.
func cancelRefused(id string, status int, e api.Errno) []api.Out {
	return told(toClient, api.Tell{Kind: api.TellCancel, ID: id, Status: status, Reason: int(e)})
}

// newRefused is the report of a parent that isn't taken.
func (g *Gateway) newRefused(id string, e api.Errno) []api.Out {
	return told(toClient, api.Tell{Kind: api.TellReport, ID: id, Exec: g.nextReport(), Status: statusRefused, Reason: int(e)})
}

// report is a report of a parent: of an execution, if that has a quantity and a price.
func (g *Gateway) report(slot, status, last, price int) []api.Out {
	p := g.parents[slot].Status()
	return told(toClient, api.Tell{
		Kind:   api.TellReport,
		ID:     p.ID,
		Exec:   g.nextReport(),
		Status: status,
		Last:   last,
		Price:  price,
		Cum:    p.Filled,
		Leaves: leaves(p),
	})
}

// nextReport is the name of a report that is made now.
func (g *Gateway) nextReport() string {
	g.reports++
	return "x" + strconv.Itoa(g.reports)
}

// leaves is what may be filled yet. Where an order was made less than its children claim they may fill more than it asks for.
func leaves(p api.Parent) int {
	if p.State > api.PEnding {
		return 0
	}
	return max(p.Qty-p.Filled-p.Busted, 0)
}

// ownStatus is how a parent stands.
func ownStatus(p api.Parent) int {
	switch p.State {
	case api.PPaused, api.PHalted:
		return statusStopped
	case api.PEnding:
		return statusEnding
	case api.PFilled:
		return statusFilled
	case api.PCanceled:
		return statusCanceled
	}
	// PWorking: there is no other one.
	if p.Filled == 0 {
		return statusNew
	}
	return statusPartial
}

// reportOwn is a report of how a parent stands.
func (g *Gateway) reportOwn(slot int) []api.Out {
	return g.report(slot, ownStatus(g.parents[slot].Status()), 0, 0)
}

// settle settles a parent, if it is done, and wasn't settled: the book still holds something for it then.
func (g *Gateway) settle(slot int) []api.Out {
	p := g.parents[slot]
	if _, _, held := g.book.Held(slot); !held || p.Open() {
		return nil
	}
	// It isn't refused: what is reserved is at least what was filled is worth.
	g.book.Settle(slot, p.Status().Worth)
	return g.reportOwn(slot)
}
