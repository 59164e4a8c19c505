package session_test

import (
	"testing"

	"spigot/api"
	"spigot/ring"
	"spigot/session"
)

const (
	leastInt    = -1 << 63
	greatestInt = 1<<63 - 1
)

// plain is a session as the chapter's words have it: a list, and what was counted.
type plain struct {
	room                int
	list                []api.Order
	sent, taken, faults int
	down                bool
}

// send is Send's answer, for an order that is right or isn't.
func (p *plain) send(o api.Order, right bool) (int, api.Errno) {
	switch {
	case !right:
		return 0, api.ErrArg
	case p.down:
		return 0, api.ErrDown
	case len(p.list) == p.room:
		return 0, api.ErrFull
	}
	p.sent++
	o.Seq = p.sent
	p.list = append(p.list, o)
	return p.sent, api.OK
}

func (p *plain) pop() (api.Order, api.Errno) {
	if len(p.list) == 0 {
		return api.Order{}, api.ErrEmpty
	}
	o := p.list[0]
	p.list = p.list[1:]
	return o, api.OK
}

func (p *plain) take(seq int) api.Errno {
	switch {
	case seq <= p.taken:
		return api.ErrSeq
	case seq != p.taken+1:
		return api.ErrGap
	}
	p.taken++
	return api.OK
}

// pair is a session and the plain one beside it: whatever is done with both, all that is told must be the same.
type pair struct {
	t *testing.T
	s *session.Session
	p *plain
}

func newPair(t *testing.T, room int) *pair {
	t.Helper()
	s, e := session.New(room)
	if s == nil || e != api.OK {
		t.Fatalf("New(%d): %v, %d", room, s, e)
	}
	x := &pair{t, s, &plain{room: room}}
	x.same()
	return x
}

// told is all that a session tells without being changed.
type told struct {
	waiting, sent, taken, faults int
	healthy                      bool
}

func tells(s *session.Session) told {
	return told{s.Waiting(), s.Sent(), s.Taken(), s.Faults(), s.Healthy()}
}

// same asks twice, as being asked changes nothing.
func (x *pair) same() {
	x.t.Helper()
	want := told{len(x.p.list), x.p.sent, x.p.taken, x.p.faults, !x.p.down && x.p.faults == 0}
	for range 2 {
		if got := tells(x.s); got != want {
			x.t.Fatalf("it tells %+v; the document asks for %+v", got, want)
		}
	}
}

func (x *pair) send(o api.Order, right bool) api.Errno {
	x.t.Helper()
	seq, e := x.s.Send(o)
	wantSeq, want := x.p.send(o, right)
	if seq != wantSeq || e != want {
		x.t.Fatalf("Send(%+v): %d, %d; the document asks for %d, %d", o, seq, e, wantSeq, want)
	}
	x.same()
	return e
}

func (x *pair) pop() (api.Order, api.Errno) {
	x.t.Helper()
	o, e := x.s.Pop()
	want, wantE := x.p.pop()
	if o != want || e != wantE {
		x.t.Fatalf("Pop: %+v, %d; the document asks for %+v, %d", o, e, want, wantE)
	}
	x.same()
	return o, e
}

func (x *pair) take(seq int) api.Errno {
	x.t.Helper()
	e, want := x.s.Take(seq), x.p.take(seq)
	if e != want {
		x.t.Fatalf("Take(%d) behind %d: %d; the document asks for %d", seq, x.p.taken, e, want)
	}
	x.same()
	return e
}

func (x *pair) fault() {
	x.t.Helper()
	x.s.Fault()
	x.p.faults++
	x.same()
}

func (x *pair) turn(down bool) {
	x.t.Helper()
	if down {
		x.s.Down()
	} else {
		x.s.Up()
	}
	x.p.down = down
	x.same()
}

func (x *pair) wantSend(o api.Order, e api.Errno) {
	x.t.Helper()
	if got := x.send(o, e != api.ErrArg); got != e {
		x.t.Fatalf("Send(%+v): %d; the document asks for %d", o, got, e)
	}
}

func (x *pair) wantPop(o api.Order, seq int) {
	x.t.Helper()
	o.Seq = seq
	if got, e := x.pop(); got != o || e != api.OK {
		x.t.Fatalf("Pop: %+v, %d; the document asks for %+v", got, e, o)
	}
}

func (x *pair) wantEmpty() {
	x.t.Helper()
	if o, e := x.pop(); o != (api.Order{}) || e != api.ErrEmpty {
		x.t.Fatalf("Pop of nothing: %+v, %d", o, e)
	}
}

func (x *pair) wantTake(seq int, e api.Errno) {
	x.t.Helper()
	if got := x.take(seq); got != e {
		x.t.Fatalf("Take(%d): %d; the document asks for %d", seq, got, e)
	}
}

// P22.1: a room that may not be is ErrArg, and no session.
func TestNoRoom(t *testing.T) {
	for _, room := range []int{0, -1, -2, -api.MaxRing, api.MaxRing + 1, api.MaxRing + 2, 1 << 32, 1<<32 + 1, -1 << 32, leastInt, leastInt + 1, greatestInt - 1, greatestInt} {
		if s, e := session.New(room); s != nil || e != api.ErrArg {
			t.Errorf("New(%d): %v, %d", room, s, e)
		}
	}
}

// P22.1: one that may be is a session that is up, in which nothing was sent, taken, or went wrong; just so many orders may wait in it.
func TestNew(t *testing.T) {
	for _, room := range []int{1, 2, 3, 10, 1000, api.MaxRing - 1, api.MaxRing} {
		s, e := session.New(room)
		if s == nil || e != api.OK {
			t.Fatalf("New(%d): %v, %d", room, s, e)
		}
		if got := tells(s); got != (told{healthy: true}) {
			t.Fatalf("New(%d) tells %+v", room, got)
		}
		x := &pair{t, s, &plain{room: room}}
		x.wantEmpty()
		for range room {
			x.wantSend(cancelOf("c"), api.OK)
		}
		x.wantSend(cancelOf("c"), api.ErrFull)
		for i := range room {
			x.wantPop(cancelOf("c"), i+1)
		}
		x.wantEmpty()
	}
}

// P22.1 to P22.4: of a Session that is nil, or that New did not make, whatever the arguments: ErrNil, and nothing else; it stays so.
func TestNotMade(t *testing.T) {
	row, _ := ring.New[api.Order](5)
	row.Push(cancelOf("c"))
	for i, s := range []*session.Session{nil, {}, new(session.Session), {Ring: row}} {
		for range 2 {
			for _, o := range append(rightOrders(), wrongOrders()...) {
				if seq, e := s.Send(o); seq != 0 || e != api.ErrNil {
					t.Fatalf("%d: Send(%+v): %d, %d", i, o, seq, e)
				}
			}
			if o, e := s.Pop(); o != (api.Order{}) || e != api.ErrNil {
				t.Fatalf("%d: Pop: %+v, %d", i, o, e)
			}
			for _, seq := range someSeqs() {
				if e := s.Take(seq); e != api.ErrNil {
					t.Fatalf("%d: Take(%d): %d", i, seq, e)
				}
			}
			for _, f := range []func(){func() {}, s.Fault, s.Up, s.Down, s.Up} {
				f()
				if got := tells(s); got != (told{}) {
					t.Fatalf("%d: it tells %+v", i, got)
				}
			}
		}
	}
	if row.Len() != 1 {
		t.Fatalf("%d wait in the row, where one did", row.Len())
	}
}

// P22.2 to P22.4: no session knows of another one.
func TestTwoSessions(t *testing.T) {
	a, b := newPair(t, 1), newPair(t, 2)
	a.wantSend(cancelOf("a"), api.OK)
	a.wantSend(cancelOf("a"), api.ErrFull)
	b.same()
	b.wantSend(cancelOf("b"), api.OK)
	b.wantSend(cancelOf("c"), api.OK)
	a.turn(true)
	a.fault()
	a.wantTake(1, api.OK)
	b.same()
	b.wantPop(cancelOf("b"), 1)
	b.wantSend(cancelOf("d"), api.OK)
	b.wantTake(2, api.ErrGap)
	b.wantTake(1, api.OK)
	b.wantTake(2, api.OK)
	a.same()
	a.wantPop(cancelOf("a"), 1)
	a.wantEmpty()
	b.wantPop(cancelOf("c"), 2)
	b.wantPop(cancelOf("d"), 3)
}

// The chapter's example.
func TestExample(t *testing.T) {
	x := newPair(t, 1)
	x.wantTake(1, api.OK)
	x.wantTake(1, api.ErrSeq)
	x.wantTake(3, api.ErrGap)
	x.wantTake(2, api.OK)
	if x.s.Taken() != 2 {
		t.Fatalf("Taken: %d", x.s.Taken())
	}
}
