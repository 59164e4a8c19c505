package gateway_test

import (
	"fmt"
	"strconv"
	"strings"

	"spigot/api"
	"spigot/ask"
	"spigot/parent"
	"spigot/post"
	"spigot/router"
	"spigot/wire"
)

// What goes out is told as a text here: where it goes to, a blank, and its body, each byte 1 as a bar.

func report(n int, id string, status, last, price, cum, leaves int, reason api.Errno) string {
	return fmt.Sprintf("0 35=8|11=%s|17=x%d|39=%d|32=%d|31=%d|14=%d|151=%d|103=%d|", id, n, status, last, price, cum, leaves, reason)
}

// stands is a report that has neither an execution nor a reason.
func stands(n int, id string, status, cum, leaves int) string {
	return report(n, id, status, 0, 0, cum, leaves, api.OK)
}

// notTaken is the report of a parent that isn't taken.
func notTaken(n int, id string, reason api.Errno) string {
	return report(n, id, 8, 0, 0, 0, 0, reason)
}

// notDone is that what an ask would do isn't done.
func notDone(id string, status int, reason api.Errno) string {
	return fmt.Sprintf("0 35=9|11=%s|39=%d|103=%d|", id, status, reason)
}

func reject(to, tag int, reason api.Errno) string {
	return fmt.Sprintf("%d 35=3|371=%d|373=%d|", to, tag, reason)
}

func other(to, tag int, reason api.Errno) string {
	return fmt.Sprintf("%d 35=j|371=%d|380=%d|", to, tag, reason)
}

func newOut(to, seq int, id, symbol string, side, qty, price int) string {
	return fmt.Sprintf("%d 35=D|34=%d|11=%s|55=%s|54=%d|38=%d|44=%d|", to, seq, id, symbol, side, qty, price)
}

func cancelOut(to, seq int, id string) string {
	return fmt.Sprintf("%d 35=F|34=%d|11=%s|", to, seq, id)
}

func replaceOut(to, seq int, id string, qty, price int) string {
	return fmt.Sprintf("%d 35=G|34=%d|11=%s|38=%d|44=%d|", to, seq, id, qty, price)
}

// sealed is a body, with bars for the byte 1, as a message.
func sealed(body string) string {
	body = strings.ReplaceAll(body, "|", "\x01")
	ahead := "8=FIX.4.4\x019=" + strconv.Itoa(len(body)) + "\x01" + body
	n := 0
	for i := range len(ahead) {
		n += int(ahead[i])
	}
	return fmt.Sprintf("%s10=%03d\x01", ahead, n%256)
}

// plainExec is an execution of a venue that was seen, or a bust of one.
type plainExec struct {
	name, order  string
	qty, price   int
	bust, busted bool
}

type plainVenue struct {
	sent, taken, faults int
	execs               []plainExec
}

func (v *plainVenue) exec(name string) *plainExec {
	for i := range v.execs {
		if v.execs[i].name == name {
			return &v.execs[i]
		}
	}
	return nil
}

// plainParent is a parent that was taken, what is held for it, and whether it was settled.
type plainParent struct {
	*parent.Parent
	held    int
	settled bool
}

// plain is a gateway as the chapter's words have it, one by one, in plain lists.
type plain struct {
	s        api.Setup
	now      int
	killed   bool
	volumes  map[string]int
	parents  []*plainParent
	realised map[string]int
	net      map[[2]string]int
	venues   []*plainVenue
	owners   []*plainParent // of c1, c2 ..
	reports  int
}

func newPlain(s api.Setup) *plain {
	m := &plain{s: s, volumes: map[string]int{}, realised: map[string]int{}, net: map[[2]string]int{}}
	for range s.Venues {
		m.venues = append(m.venues, &plainVenue{})
	}
	return m
}

// place is where a name stands in a list; -1, if it doesn't.
func place[T any](list []T, name string, nameOf func(T) string) int {
	for i, one := range list {
		if nameOf(one) == name {
			return i
		}
	}
	return -1
}

func (m *plain) account(name string) int {
	return place(m.s.Accounts, name, func(a api.Account) string { return a.Name })
}

func (m *plain) symbol(name string) int {
	return place(m.s.Symbols, name, func(s api.Symbol) string { return s.Name })
}

func (m *plain) venuePlace(name string) int {
	return place(m.s.Venues, name, func(v api.Venue) string { return v.Name })
}

func (m *plain) find(id string) *plainParent {
	for _, p := range m.parents {
		if p.Status().ID == id {
			return p
		}
	}
	return nil
}

// used is what an account uses.
func (m *plain) used(account string) int {
	n := m.realised[account]
	for _, p := range m.parents {
		if p.Status().Account == account {
			n += p.held
		}
	}
	return n
}

func (m *plain) left(account string) int {
	return m.s.Accounts[m.account(account)].Limit - m.used(account)
}

// own is a parent's own status.
func own(p api.Parent) int {
	if p.State == api.PWorking && p.Filled > 0 {
		return 1
	}
	return map[int]int{api.PWorking: 0, api.PPaused: 9, api.PHalted: 9, api.PEnding: 6, api.PFilled: 2, api.PCanceled: 4}[p.State]
}

func (m *plain) report(p *plainParent, status, last, price int) string {
	m.reports++
	x := p.Status()
	leaves := 0
	if left := x.Qty - x.Filled - x.Busted; p.Open() && left > 0 {
		leaves = left
	}
	return report(m.reports, x.ID, status, last, price, x.Filled, leaves, api.OK)
}

// settle is a parent's settlement and the report of it, if it is done and wasn't settled.
func (m *plain) settle(p *plainParent) []string {
	if p.Open() || p.settled {
		return nil
	}
	x := p.Status()
	p.settled, p.held = true, 0
	m.realised[x.Account] += x.Worth
	return []string{m.report(p, own(x), 0, 0)}
}

func (m *plain) tick() ([]string, api.Errno) {
	m.now++
	var out []string
	for _, p := range m.parents {
		var offers []router.Offer
		for i, v := range m.s.Venues {
			offers = append(offers, router.Offer{Place: i, Lot: v.Lot, Fee: v.Fee, Shown: v.Shown, Healthy: m.venues[i].faults == 0})
		}
		x, made := p.Status(), len(m.owners)
		for _, move := range p.Work(m.now, m.volumes[x.Symbol], m.killed, made+1, m.s.Children-made, offers) {
			v := m.venues[move.Place]
			v.sent++
			switch move.Kind {
			case api.OrderNew:
				m.owners = append(m.owners, p)
				out = append(out, newOut(move.Place+1, v.sent, move.ID, x.Symbol, x.Side, move.Qty, move.Price))
			case api.OrderCancel:
				out = append(out, cancelOut(move.Place+1, v.sent, move.ID))
			case api.OrderReplace:
				out = append(out, replaceOut(move.Place+1, v.sent, move.ID, move.Qty, move.Price))
			}
		}
		out = append(out, m.settle(p)...)
	}
	return out, api.OK
}

func (m *plain) print(symbol string, qty int) api.Errno {
	switch {
	case m.symbol(symbol) < 0:
		return api.ErrUnknown
	case qty < 1 || qty > 1<<40:
		return api.ErrArg
	case m.volumes[symbol]+qty > 1<<62:
		return api.ErrOver
	}
	m.volumes[symbol] += qty
	return api.OK
}

func (m *plain) kill() api.Errno {
	if m.killed {
		return api.ErrState
	}
	m.killed = true
	return api.OK
}

func (m *plain) resume() api.Errno {
	if !m.killed {
		return api.ErrState
	}
	m.killed = false
	return api.OK
}

// wrong is how bytes are refused.
func wrong(to, tag int, e api.Errno) ([]string, api.Errno) {
	if e == api.ErrType {
		return []string{other(to, tag, e)}, e
	}
	return []string{reject(to, tag, e)}, e
}

// body is the body of bytes that are just one message.
func body(bytes string) (string, api.Errno) {
	body, n, e := wire.Open(bytes)
	if e == api.OK && n != len(bytes) {
		e = api.ErrSpare
	}
	return body, e
}

func (m *plain) client(bytes string) ([]string, api.Errno) {
	body, e := body(bytes)
	if e != api.OK {
		return wrong(0, 0, e)
	}
	a, tag, e := ask.Decode(body)
	if e != api.OK {
		return wrong(0, tag, e)
	}
	if a.Kind == api.AskNew {
		return m.enter(a)
	}
	return m.change(a)
}

func (m *plain) enter(a api.Ask) ([]string, api.Errno) {
	p, e := m.fits(a)
	if e != api.OK {
		m.reports++
		return []string{notTaken(m.reports, a.ID, e)}, e
	}
	m.parents = append(m.parents, p)
	return []string{m.report(p, 0, 0, 0)}, api.OK
}

func (m *plain) fits(a api.Ask) (*plainParent, api.Errno) {
	symbol := m.symbol(a.Symbol)
	if m.killed {
		return nil, api.ErrKilled
	}
	if m.account(a.Account) < 0 || symbol < 0 {
		return nil, api.ErrUnknown
	}
	if m.find(a.ID) != nil {
		return nil, api.ErrTwice
	}
	if len(m.parents) == m.s.Parents {
		return nil, api.ErrFull
	}
	if a.End <= m.now {
		return nil, api.ErrTime
	}
	p, e := parent.New(a, m.s.Symbols[symbol], m.s, m.volumes[a.Symbol])
	if e != api.OK {
		return nil, e
	}
	if p.Need() > m.left(a.Account) {
		return nil, api.ErrLimit
	}
	return &plainParent{Parent: p, held: p.Need()}, api.OK
}

func (m *plain) change(a api.Ask) ([]string, api.Errno) {
	p := m.find(a.Target)
	if p == nil {
		return []string{notDone(a.ID, 8, api.ErrUnknown)}, api.ErrUnknown
	}
	status, e := 0, api.ErrDone
	if p.Open() {
		status, e = m.do(p, a)
	}
	if e != api.OK {
		return []string{notDone(a.ID, own(p.Status()), e)}, e
	}
	return append([]string{m.report(p, status, 0, 0)}, m.settle(p)...), api.OK
}

func (m *plain) do(p *plainParent, a api.Ask) (status int, e api.Errno) {
	switch a.Kind {
	case api.AskCancel:
		return 6, p.End()
	case api.AskPause:
		return 9, p.Pause()
	case api.AskResume:
		if m.killed {
			return 0, api.ErrKilled
		}
		e := p.Resume()
		return own(p.Status()), e
	}
	need, e := p.Would(a.Qty, a.Price, a.End, m.now)
	if e != api.OK {
		return 0, e
	}
	if need-p.held > m.left(p.Status().Account) {
		return 0, api.ErrLimit
	}
	p.held = need
	return 5, p.Amend(a.Qty, a.Price, a.End, m.now)
}

func (m *plain) venue(name, bytes string) ([]string, api.Errno) {
	at := m.venuePlace(name)
	if at < 0 {
		return nil, api.ErrUnknown
	}
	body, e := body(bytes)
	if e != api.OK {
		return wrong(at+1, 0, e)
	}
	r, tag, e := post.DecodeReply(body)
	if e != api.OK {
		return wrong(at+1, tag, e)
	}
	v := m.venues[at]
	if r.Seq <= v.taken {
		return wrong(at+1, 34, api.ErrSeq)
	}
	if r.Seq > v.taken+1 {
		return wrong(at+1, 34, api.ErrGap)
	}
	v.taken++
	out, e := m.hear(at, r)
	if e == api.OK {
		return out, e
	}
	if r.Kind == api.ReplyTrade && (e == api.ErrState || e == api.ErrBand || e == api.ErrBig || e == api.ErrFull) {
		v.faults++
		m.killed = true
	}
	return wrong(at+1, 11, e)
}

// owner is the parent of the child of an ID.
func (m *plain) owner(id string) *plainParent {
	for i, p := range m.owners {
		if id == "c"+strconv.Itoa(i+1) {
			return p
		}
	}
	return nil
}

func (m *plain) hear(at int, r api.Reply) ([]string, api.Errno) {
	p, v := m.owner(r.ID), m.venues[at]
	if p == nil {
		return nil, api.ErrUnknown
	}
	if r.Kind == api.ReplyTrade || r.Kind == api.ReplyBust {
		if v.exec(r.Exec) != nil {
			return nil, api.ErrTwice
		}
		if len(v.execs) == m.s.Execs {
			return nil, api.ErrFull
		}
	}
	if r.Kind == api.ReplyBust {
		return m.bust(p, at, r)
	}
	if e := p.Reply(at, r); e != api.OK {
		return nil, e
	}
	var out []string
	if r.Kind == api.ReplyTrade {
		v.execs = append(v.execs, plainExec{name: r.Exec, order: r.ID, qty: r.Qty, price: r.Price})
		m.move(p, r.Qty)
		out = append(out, m.report(p, 1, r.Qty, r.Price))
	}
	return append(out, m.settle(p)...), api.OK
}

// move changes the position of a parent's account, as it is executed by so much.
func (m *plain) move(p *plainParent, qty int) {
	x := p.Status()
	if x.Side == api.Sell {
		qty = -qty
	}
	m.net[[2]string{x.Account, x.Symbol}] += qty
}

func (m *plain) bust(p *plainParent, at int, r api.Reply) ([]string, api.Errno) {
	v := m.venues[at]
	x := v.exec(r.Ref)
	if x == nil || x.order != r.ID || x.bust {
		return nil, api.ErrUnknown
	}
	if x.busted {
		return nil, api.ErrTwice
	}
	if e := p.Bust(at, r.ID, x.qty, x.price); e != api.OK {
		return nil, e
	}
	x.busted = true
	m.move(p, -x.qty)
	if p.settled {
		m.realised[p.Status().Account] -= x.qty * x.price
	} else {
		p.held -= x.qty * x.price
	}
	v.execs = append(v.execs, plainExec{name: r.Exec, order: r.ID, bust: true})
	return []string{m.report(p, own(p.Status()), 0, 0)}, api.OK
}

func (m *plain) view() api.View {
	v := api.View{Now: m.now, Killed: m.killed}
	for _, p := range m.parents {
		v.Parents = append(v.Parents, p.Status())
		v.Held = append(v.Held, p.held)
	}
	for _, a := range m.s.Accounts {
		v.Used = append(v.Used, m.used(a.Name))
		v.Realised = append(v.Realised, m.realised[a.Name])
	}
	for _, x := range m.venues {
		v.Faults = append(v.Faults, x.faults)
	}
	return v
}
