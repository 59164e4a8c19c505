package parent_test

import (
	"math/big"
	"slices"
	"strconv"

	"spigot/api"
	"spigot/gate"
	"spigot/matrix"
	"spigot/post"
	"spigot/router"
	"spigot/slicer"
)

// plainChild is a child as chapter 21's words have it.
type plainChild struct {
	api.Child
	place int
}

func (c *plainChild) open() bool {
	return slices.Contains([]int{api.SPending, api.SNew, api.SPartial, api.SCanceling, api.SReplacing}, c.State)
}

// quiet is open and neither SCanceling nor SReplacing.
func (c *plainChild) quiet() bool {
	return slices.Contains([]int{api.SPending, api.SNew, api.SPartial}, c.State)
}

func (c *plainChild) claim() int {
	switch {
	case !c.open():
		return 0
	case c.State == api.SReplacing && c.NextQty > c.Qty:
		return c.NextQty - c.Cum
	}
	return c.Qty - c.Cum
}

// prices are those that it may have at its venue.
func (c *plainChild) prices() []int {
	if c.State == api.SReplacing {
		return []int{c.Price, c.NextPrice}
	}
	return []int{c.Price}
}

// happen is what an event makes of its state, cum being what is executed behind it.
func (c *plainChild) happen(event, cum int) api.Errno {
	state, e := matrix.Next(c.State, event, cum)
	if e != api.OK {
		return e
	}
	switch event {
	case api.EReplaced:
		c.Qty, c.Price = c.NextQty, c.NextPrice
		c.NextQty, c.NextPrice = 0, 0
	case api.ERefused:
		c.NextQty, c.NextPrice = 0, 0
	}
	c.State, c.Cum = state, cum
	if (event == api.EReplaced || event == api.ERefused) && c.Cum >= c.Qty {
		c.State = api.SFilled
	}
	if !c.open() {
		c.NextQty, c.NextPrice = 0, 0
	}
	return api.OK
}

// plain is a parent as the chapter's words have it, one by one.
type plain struct {
	a                    api.Ask
	s                    api.Symbol
	t                    api.Setup
	volume               int
	state, most          int
	filled, busted       int
	worth                int
	children             []*plainChild
	moved                []int    // the ticks of all moves
	executions           [][3]int // since the last Resume: place, quantity, price
	tripped, newOverGoal bool
}

func newPlain(a api.Ask, s api.Symbol, t api.Setup, volume int) *plain {
	a.Curve = slices.Clone(a.Curve)
	t.Venues = slices.Clone(t.Venues)
	return &plain{a: a, s: s, t: t, volume: volume, state: api.PWorking, most: a.Qty}
}

func (p *plain) open() bool { return p.state <= api.PEnding }

func (p *plain) goesOn() bool {
	return p.state == api.PWorking || p.state == api.PPaused || p.state == api.PHalted
}

func (p *plain) claims() int {
	n := 0
	for _, c := range p.children {
		n += c.claim()
	}
	return n
}

func (p *plain) committed() int { return p.filled + p.busted + p.claims() }

// high is the band's upper end.
func (p *plain) high() int {
	return min(p.s.Middle*(10000+p.s.Width)/10000, api.MaxPrice) / p.s.Tick * p.s.Tick
}

// needOf is its need with another quantity and price, in numbers that have room for all.
func (p *plain) needOf(qty, price int) *big.Int {
	worst := price
	if p.a.Side == api.Sell {
		worst = p.high()
	}
	need := big.NewInt(int64(p.worth))
	add := func(qty, price int) {
		need.Add(need, new(big.Int).Mul(big.NewInt(int64(qty)), big.NewInt(int64(price))))
	}
	for _, c := range p.children {
		cover := slices.Max(c.prices())
		if p.a.Side == api.Sell {
			cover = p.high()
		}
		add(c.claim(), max(cover, worst))
	}
	if p.committed() < qty {
		add(qty-p.committed(), worst)
	}
	return need
}

func (p *plain) need() int { return int(p.needOf(p.a.Qty, p.a.Price).Int64()) }

// status is all of it.
func (p *plain) status() api.Parent {
	var children []api.Child
	for _, c := range p.children {
		x := c.Child
		x.Claim = c.claim()
		children = append(children, x)
	}
	return api.Parent{
		ID: p.a.ID, Account: p.a.Account, Symbol: p.a.Symbol, Side: p.a.Side, State: p.state, Algo: p.a.Algo,
		Qty: p.a.Qty, Price: p.a.Price, Start: p.a.Start, End: p.a.End, Most: p.most, Filled: p.filled, Busted: p.busted,
		Worth: p.worth, Claims: p.claims(), Need: p.need(), Children: children,
	}
}

// finish is what the chapter's words say of 'finished'.
func (p *plain) finish() {
	if !p.open() || slices.ContainsFunc(p.children, (*plainChild).open) {
		return
	}
	if p.filled+p.busted >= p.a.Qty {
		p.state = api.PCanceled
		if p.busted == 0 {
			p.state = api.PFilled
		}
	} else if p.state == api.PEnding {
		p.state = api.PCanceled
	}
}

func (p *plain) pause() api.Errno {
	if p.state != api.PWorking {
		return api.ErrState
	}
	p.state = api.PPaused
	return api.OK
}

func (p *plain) resume() api.Errno {
	if p.state != api.PPaused && p.state != api.PHalted {
		return api.ErrState
	}
	p.state, p.executions, p.tripped = api.PWorking, nil, false
	return api.OK
}

func (p *plain) end() api.Errno {
	if !p.goesOn() {
		return api.ErrState
	}
	p.state = api.PEnding
	p.finish()
	return api.OK
}

func (p *plain) would(qty, price, end, now int) (int, api.Errno) {
	if !p.goesOn() || qty == p.a.Qty && price == p.a.Price && end == p.a.End {
		return 0, api.ErrState
	}
	if _, _, e := gate.Check(p.s, p.a.Side, qty, price); e != api.OK {
		return 0, e
	}
	if qty < p.filled+p.busted {
		return 0, api.ErrQty
	}
	if end <= now || end > api.MaxTime || end <= p.a.Start || end > p.a.Start+api.MaxSpan {
		return 0, api.ErrTime
	}
	need := p.needOf(qty, price)
	if need.Cmp(big.NewInt(api.MaxLimit)) > 0 {
		return 0, api.ErrNotional
	}
	return int(need.Int64()), api.OK
}

func (p *plain) amend(qty, price, end, now int) api.Errno {
	if _, e := p.would(qty, price, end, now); e != api.OK {
		return e
	}
	p.a.Qty, p.a.Price, p.a.End = qty, price, end
	p.most = max(p.most, qty)
	p.finish()
	return api.OK
}

func (p *plain) find(place int, id string) *plainChild {
	for _, c := range p.children {
		if c.place == place && c.ID == id {
			return c
		}
	}
	return nil
}

func (p *plain) reply(place int, r api.Reply) api.Errno {
	if !post.RightReply(r) || r.Kind == api.ReplyBust {
		return api.ErrArg
	}
	c := p.find(place, r.ID)
	if c == nil {
		return api.ErrUnknown
	}
	e := api.OK
	switch r.Kind {
	case api.ReplyNew:
		e = c.happen(api.EAck, c.Cum)
	case api.ReplyCanceled:
		e = c.happen(api.ECanceled, c.Cum)
	case api.ReplyReplaced:
		e = c.happen(api.EReplaced, c.Cum)
	case api.ReplyRejected:
		e = c.happen(api.ERejected, c.Cum)
	case api.ReplyRefused:
		e = c.happen(api.ERefused, c.Cum)
	case api.ReplyTrade:
		e = p.trade(c, r.Qty, r.Price)
	}
	p.finish()
	return e
}

func (p *plain) trade(c *plainChild, qty, price int) api.Errno {
	if !c.open() {
		return api.ErrState
	}
	if p.a.Side == api.Buy && price > slices.Max(c.prices()) || p.a.Side == api.Sell && price < slices.Min(c.prices()) || price > p.high() {
		return api.ErrBand
	}
	if qty > c.claim() {
		return api.ErrBig
	}
	event := api.ETrade
	if qty == c.claim() {
		event = api.EFill
	}
	if e := c.happen(event, c.Cum+qty); e != api.OK {
		return e
	}
	p.filled += qty
	p.worth += qty * price
	p.executions = append(p.executions, [3]int{c.place, qty, price})
	if p.streak() >= p.t.Repeat {
		p.tripped = true
	}
	if p.tripped && p.state == api.PWorking {
		p.state = api.PHalted
	}
	return api.OK
}

// streak is how many executions at the end are the same.
func (p *plain) streak() int {
	n := 0
	for _, x := range slices.Backward(p.executions) {
		if x != p.executions[len(p.executions)-1] {
			break
		}
		n++
	}
	return n
}

func (p *plain) bust(place int, id string, qty, price int) api.Errno {
	c := p.find(place, id)
	if c == nil {
		return api.ErrUnknown
	}
	if qty < 1 || qty > p.filled || price < 1 || price > api.MaxPrice {
		return api.ErrArg
	}
	worth := new(big.Int).Mul(big.NewInt(int64(qty)), big.NewInt(int64(price)))
	if worth.Cmp(big.NewInt(int64(p.worth))) > 0 {
		return api.ErrArg
	}
	if qty > c.Cum {
		return api.ErrArg
	}
	if e := c.happen(api.EBust, c.Cum-qty); e != api.OK {
		return e
	}
	c.Qty -= qty
	if c.State == api.SReplacing {
		c.NextQty -= qty
	}
	p.filled -= qty
	p.busted += qty
	p.worth -= int(worth.Int64())
	return api.OK
}

// may says whether the window lets one more move go, and takes it.
func (p *plain) may(now int) bool {
	n := 0
	for _, at := range p.moved {
		if at > now {
			return false
		}
		if at > now-p.t.Window {
			n++
		}
	}
	if n >= p.t.Most {
		return false
	}
	p.moved = append(p.moved, now)
	return true
}

// work is what P28.4 says, step by step.
func (p *plain) work(now, volume int, killed bool, first, room int, offers []router.Offer) []api.Move {
	if !p.open() || now < 0 || now > api.MaxTime {
		return nil
	}
	if p.goesOn() && now >= p.a.End {
		p.state = api.PEnding
		p.finish()
	}
	if p.state == api.PEnding || killed {
		return p.cancels(now, p.children, func(*plainChild) bool { return true })
	}
	if p.state != api.PWorking {
		return nil
	}
	if p.committed() > p.a.Qty {
		kept := p.committed()
		for _, c := range p.children {
			if c.State == api.SCanceling {
				kept -= c.claim()
			}
		}
		last := slices.Clone(p.children)
		slices.Reverse(last)
		return p.cancels(now, last, func(c *plainChild) bool {
			above := kept > p.a.Qty
			kept -= c.claim()
			return above
		})
	}
	return append(p.prices(now), p.news(now, volume, first, room, offers)...)
}

// cancels is a cancel for each of a list that is quiet, as long as it is wanted.
func (p *plain) cancels(now int, list []*plainChild, wanted func(c *plainChild) bool) []api.Move {
	var moves []api.Move
	for _, c := range list {
		if !c.quiet() {
			continue
		}
		if !wanted(c) || !p.may(now) {
			break
		}
		c.happen(api.ECancel, c.Cum)
		moves = append(moves, api.Move{Kind: api.OrderCancel, Place: c.place, ID: c.ID})
	}
	return moves
}

// prices is the fifth step.
func (p *plain) prices(now int) []api.Move {
	var moves []api.Move
	for _, c := range p.children {
		if c.State != api.SNew && c.State != api.SPartial || c.Price == p.a.Price {
			continue
		}
		if !p.may(now) {
			break
		}
		if p.t.Venues[c.place].Replaces {
			c.happen(api.EReplace, c.Cum)
			c.NextQty, c.NextPrice = c.Qty, p.a.Price
			moves = append(moves, api.Move{Kind: api.OrderReplace, Place: c.place, ID: c.ID, Qty: c.Qty, Price: p.a.Price})
		} else {
			c.happen(api.ECancel, c.Cum)
			moves = append(moves, api.Move{Kind: api.OrderCancel, Place: c.place, ID: c.ID})
		}
	}
	return moves
}

// goal is layer 27's of the order as it is now; -1, if there is none.
func (p *plain) goal(now, volume int) int {
	s, e := slicer.New(p.a, p.volume)
	if e != api.OK {
		panic("the order isn't right any more")
	}
	goal, e := s.Goal(now, volume, min(p.filled+p.busted, p.a.Qty), p.s.Lot)
	if e != api.OK {
		return -1
	}
	return goal
}

// news is the sixth step.
func (p *plain) news(now, volume, first, room int, offers []router.Offer) []api.Move {
	goal := p.goal(now, volume)
	if first < 0 || first > api.MaxTime || goal <= p.committed() {
		return nil
	}
	var known []router.Offer
	for _, o := range offers {
		if o.Place >= 0 && o.Place < len(p.t.Venues) {
			known = append(known, o)
		}
	}
	pieces, _ := router.Split(goal-p.committed(), p.s.Lot, known)
	var moves []api.Move
	for i, piece := range pieces {
		if i >= room || !p.may(now) {
			break
		}
		m := api.Move{Kind: api.OrderNew, Place: piece.Place, ID: "c" + strconv.Itoa(first+i), Qty: piece.Qty, Price: p.a.Price}
		moves = append(moves, m)
		p.children = append(p.children, &plainChild{api.Child{ID: m.ID, Venue: p.t.Venues[m.Place].Name, Side: p.a.Side, State: api.SPending, Qty: m.Qty, Price: m.Price}, m.Place})
	}
	p.newOverGoal = p.newOverGoal || len(moves) > 0 && p.committed() > goal
	return moves
}
