package gateway_test

import (
	"math/big"
	"slices"
	"strconv"
	"strings"
	"testing"

	"spigot/api"
	"spigot/gateway"
)

// execution is one that was said by a venue and taken.
type execution struct {
	parent, child   int
	venue           string
	qty, price      int
	side            int
	account, symbol string
}

// taken is what the ledger keeps of a parent: how much the market had traded as it was taken, its messages to venues, and its executions since it was last resumed.
type taken struct {
	ask    api.Ask
	volume int
	moved  []int
	streak []execution
}

// ledger watches a gateway from outside, by what is handed in, what goes out, and what is told: W1 to W8 must hold at each step.
type ledger struct {
	t       *testing.T
	s       api.Setup
	g       *gateway.Gateway
	before  api.View
	nets    []int
	volumes map[string]int
	taken   []*taken
	execs   map[string]execution // that stand, by venue and name
	gone    []execution          // that were taken back
}

func newLedger(t *testing.T, g *gateway.Gateway, s api.Setup) *ledger {
	l := &ledger{t: t, s: s, g: g, before: g.View(), volumes: map[string]int{}, execs: map[string]execution{}}
	l.nets = l.allNets()
	if rule := broken(s, l.before); rule != 0 {
		t.Fatalf("the rule %d is broken by a gateway that nothing happened to: %+v", rule, l.before)
	}
	return l
}

func (l *ledger) allNets() []int {
	var list []int
	for i := range l.s.Accounts {
		for k := range l.s.Symbols {
			list = append(list, l.g.Net(i, k))
		}
	}
	return list
}

// fail tells what doesn't hold.
func (l *ledger) fail(promise string, after api.View) {
	l.t.Helper()
	l.t.Fatalf("%s doesn't hold\nahead %+v\nbehind %+v", promise, l.before, after)
}

// common is what holds of whatever happens: W1, W4, W5.
func (l *ledger) common() api.View {
	l.t.Helper()
	v := l.g.View()
	if rule := brokenBetween(l.s, l.before, v); rule != 0 {
		l.fail("the rule "+strconv.Itoa(rule), v)
	}
	for i, p := range v.Parents {
		if p.State <= api.PEnding && (p.Need > v.Held[i] || p.Worth > v.Held[i]) {
			l.fail("W5: what is reserved", v)
		}
	}
	for i, a := range l.s.Accounts {
		used := v.Realised[i]
		for k, p := range v.Parents {
			if p.Account == a.Name && p.State <= api.PEnding {
				used += v.Held[k]
			}
		}
		if used != v.Used[i] || used > a.Limit {
			l.fail("W4: what "+a.Name+" uses", v)
		}
	}
	l.claims(v)
	return v
}

// claims is W3: what is filled, busted and claimed is what venues said and was taken, and no more than it ever had.
func (l *ledger) claims(v api.View) {
	l.t.Helper()
	filled, worth, busted := make([]int, len(v.Parents)), make([]int, len(v.Parents)), make([]int, len(v.Parents))
	nets := make([]int, len(l.nets))
	for _, x := range l.execs {
		filled[x.parent] += x.qty
		worth[x.parent] += x.qty * x.price
		qty := x.qty
		if x.side == api.Sell {
			qty = -qty
		}
		account := slices.IndexFunc(l.s.Accounts, func(a api.Account) bool { return a.Name == x.account })
		symbol := slices.IndexFunc(l.s.Symbols, func(s api.Symbol) bool { return s.Name == x.symbol })
		nets[account*len(l.s.Symbols)+symbol] += qty
	}
	for _, x := range l.gone {
		busted[x.parent] += x.qty
	}
	for i, p := range v.Parents {
		if p.Filled != filled[i] || p.Worth != worth[i] || p.Busted != busted[i] || p.Filled+p.Busted+p.Claims > p.Most {
			l.fail("W3: what "+p.ID+" is filled by", v)
		}
	}
	if got := l.allNets(); !slices.Equal(got, nets) {
		l.fail("W3: the positions", v)
	}
}

// behind ends a step.
func (l *ledger) behind(v api.View) {
	l.before, l.nets = v, l.allNets()
}

// refused is W2: one reject, with the reason, to whom it came from, and nothing has changed, but by a fault.
func (l *ledger) refused(to int, e api.Errno, out []string, fault bool) {
	l.t.Helper()
	v := l.common()
	reason := "=" + strconv.Itoa(int(e)) + "|"
	if len(out) != 1 || !strings.HasPrefix(out[0], strconv.Itoa(to)+" ") || !strings.HasSuffix(out[0], reason) {
		l.fail("W2: the answer "+strings.Join(out, " & "), v)
	}
	want := l.before
	if fault {
		want.Killed, want.Faults = true, slices.Clone(want.Faults)
		want.Faults[to-1]++
	}
	if !sameView(v, want) || !slices.Equal(l.nets, l.allNets()) {
		l.fail("W2: that nothing changes", v)
	}
	l.behind(v)
}

// resting is that all held of parents is what it was but of one of the place i (-1: of all); W5.
func (l *ledger) resting(v api.View, i int) {
	l.t.Helper()
	for k, held := range l.before.Held {
		done := l.before.Parents[k].State <= api.PEnding && v.Parents[k].State > api.PEnding
		if k != i && !done && v.Held[k] != held {
			l.fail("W5: that a reservation stays", v)
		}
	}
}

// ticked is W4, W6, W7, W8 of a tick.
func (l *ledger) ticked(out []string) {
	l.t.Helper()
	v := l.common()
	l.resting(v, -1)
	for i, a := range l.s.Accounts {
		ends := slices.ContainsFunc(l.before.Parents, func(p api.Parent) bool {
			k := slices.IndexFunc(v.Parents, func(q api.Parent) bool { return q.ID == p.ID })
			return p.Account == a.Name && p.State <= api.PEnding && v.Parents[k].State > api.PEnding
		})
		if !ends && (v.Used[i] != l.before.Used[i] || v.Realised[i] != l.before.Realised[i]) {
			l.fail("W4: that a tick changes nothing", v)
		}
	}
	for _, text := range out {
		if !strings.HasPrefix(text, "0 ") {
			l.sent(text, v)
		}
	}
	l.behind(v)
}

// sent is of a message to a venue.
func (l *ledger) sent(text string, v api.View) {
	l.t.Helper()
	id := field(text, "11")
	i := slices.IndexFunc(v.Parents, func(p api.Parent) bool {
		return slices.ContainsFunc(p.Children, func(c api.Child) bool { return c.ID == id })
	})
	if i < 0 {
		l.fail("whose "+text+" is", v)
	}
	x, p := l.taken[i], v.Parents[i]
	x.moved = append(x.moved, v.Now)
	n := 0
	for _, at := range x.moved {
		if at > v.Now-l.s.Window {
			n++
		}
	}
	if n > l.s.Most {
		l.fail("W7: how many messages "+p.ID+" sends", v)
	}
	stopped := v.Killed || l.before.Parents[i].State != api.PWorking || p.State != api.PWorking
	switch field(text, "35") {
	case "D":
		if stopped {
			l.fail("W6: "+text, v)
		}
		if p.Filled+p.Busted+p.Claims > l.goal(x, p, v.Now) {
			l.fail("W8: "+text, v)
		}
	case "G":
		k := slices.IndexFunc(l.before.Parents[i].Children, func(c api.Child) bool { return c.ID == id })
		if stopped || field(text, "38") != strconv.Itoa(l.before.Parents[i].Children[k].Qty) {
			l.fail("W6: "+text, v)
		}
	}
}

// field is what a tag has in a text that goes out.
func field(text, tag string) string {
	_, body, _ := strings.Cut(text, " ")
	for _, one := range strings.Split(body, "|") {
		if value, ok := strings.CutPrefix(one, tag+"="); ok {
			return value
		}
	}
	return ""
}

// goal is what the algorithm's closed form says at a tick, up to a lot.
func (l *ledger) goal(x *taken, p api.Parent, now int) int {
	symbol := l.s.Symbols[slices.IndexFunc(l.s.Symbols, func(s api.Symbol) bool { return s.Name == p.Symbol })]
	target := min(l.target(x, p, now), p.Qty)
	return min((target+symbol.Lot-1)/symbol.Lot*symbol.Lot, p.Qty)
}

func (l *ledger) target(x *taken, p api.Parent, now int) int {
	switch {
	case now < p.Start:
		return 0
	case p.Algo == api.Twap:
		return along([]int{1}, p, now)
	case p.Algo == api.Vwap:
		return along(x.ask.Curve, p, now)
	case p.Algo == api.Flow:
		return part(l.volumes[p.Symbol]-x.volume, x.ask.Rate, 10000)
	}
	return p.Filled + p.Busted + x.ask.Show
}

// part is n · a / b, down.
func part(n, a, b int) int {
	x := new(big.Int).Mul(big.NewInt(int64(n)), big.NewInt(int64(a)))
	return int(x.Div(x, big.NewInt(int64(b))).Int64())
}

// along is how much should be done of weights over time, in small numbers.
func along(w []int, p api.Parent, now int) int {
	span, gone := p.End-p.Start, min(now, p.End)-p.Start
	total, done := 0, 0
	for i, x := range w {
		total += x
		// The bucket i lies from i · span to (i + 1) · span in n-th parts of ticks.
		done += x * min(max(gone*len(w)-i*span, 0), span)
	}
	return part(p.Qty, done, total*span)
}

// printed is that the market traded.
func (l *ledger) printed(symbol string, qty int, e api.Errno) {
	l.t.Helper()
	if e == api.OK {
		l.volumes[symbol] += qty
	}
	l.still("Print")
}

// still is of what changes nothing of all that is told.
func (l *ledger) still(call string) {
	l.t.Helper()
	if v := l.common(); !sameView(v, l.before) {
		l.fail("that "+call+" changes nothing", v)
	}
}

// switched is that it was killed, or resumed.
func (l *ledger) switched(killed bool) {
	l.t.Helper()
	v := l.common()
	want := l.before
	want.Killed = killed
	if !sameView(v, want) {
		l.fail("a kill, or a resume", v)
	}
	l.behind(v)
}

// asked is of what a client asked that was done.
func (l *ledger) asked(a api.Ask) {
	l.t.Helper()
	i := slices.IndexFunc(l.before.Parents, func(p api.Parent) bool { return p.ID == a.Target })
	if a.Kind == api.AskNew {
		l.taken = append(l.taken, &taken{ask: a, volume: l.volumes[a.Symbol]})
	}
	v := l.common()
	switch a.Kind {
	case api.AskNew:
		l.resting(v, -1)
		if len(v.Parents) != len(l.before.Parents)+1 || v.Parents[len(v.Parents)-1].ID != a.ID || v.Killed {
			l.fail("that it is taken", v)
		}
	case api.AskAmend:
		l.resting(v, i)
	case api.AskResume:
		l.taken[i].streak = nil
		fallthrough
	default:
		l.resting(v, -1)
	}
	for k, p := range l.before.Parents {
		if p.State == api.PHalted && v.Parents[k].State == api.PWorking && (k != i || a.Kind != api.AskResume) {
			l.fail("W7: that it is halted till it is resumed", v)
		}
	}
	l.behind(v)
}

// heard is of a reply that was taken.
func (l *ledger) heard(venue string, r api.Reply) {
	l.t.Helper()
	i, k := l.child(r.ID)
	p := l.before.Parents[i]
	x := execution{parent: i, child: k, venue: venue, qty: r.Qty, price: r.Price, side: p.Side, account: p.Account, symbol: p.Symbol}
	switch r.Kind {
	case api.ReplyTrade:
		l.execs[venue+" "+r.Exec] = x
		l.taken[i].streak = append(l.taken[i].streak, x)
	case api.ReplyBust:
		l.gone = append(l.gone, l.execs[venue+" "+r.Ref])
		delete(l.execs, venue+" "+r.Ref)
	}
	v := l.common()
	if r.Kind == api.ReplyBust {
		l.resting(v, i)
	} else {
		l.resting(v, -1)
	}
	if r.Kind == api.ReplyTrade && p.State == api.PWorking && v.Parents[i].State == api.PWorking && l.sameAtEnd(i) {
		l.fail("W7: that it is halted", v)
	}
	l.behind(v)
}

// child is where a child of an ID stands.
func (l *ledger) child(id string) (parent, child int) {
	l.t.Helper()
	for i, p := range l.before.Parents {
		for k, c := range p.Children {
			if c.ID == id {
				return i, k
			}
		}
	}
	l.t.Fatalf("there is no child %s, but it was heard of", id)
	return 0, 0
}

// sameAtEnd says whether the last Repeat executions of a parent are the same.
func (l *ledger) sameAtEnd(i int) bool {
	list := l.taken[i].streak
	if len(list) < l.s.Repeat {
		return false
	}
	last := list[len(list)-1]
	return !slices.ContainsFunc(list[len(list)-l.s.Repeat:], func(x execution) bool {
		return x.venue != last.venue || x.qty != last.qty || x.price != last.price
	})
}
