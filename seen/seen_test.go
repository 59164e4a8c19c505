package seen_test

import (
	"strings"
	"testing"

	"spigot/api"
	"spigot/seen"
)

const (
	leastInt    = -1 << 63
	greatestInt = 1<<63 - 1
)

// entry is an execution that was met, by its name.
type entry struct {
	name string
	exec api.Exec
}

// plain is what was met, as the chapter's words have it: a list, gone through from its beginning.
type plain struct {
	room int
	list []entry
}

func (p *plain) find(name string) *entry {
	for i := range p.list {
		if p.list[i].name == name {
			return &p.list[i]
		}
	}
	return nil
}

// isName is layer 4's chapter, rune by rune.
func isName(name string) bool {
	n := 0
	for _, c := range name {
		if c < '!' || c == 127 || c == '=' || c == 65533 {
			return false
		}
		n++
	}
	return 1 <= n && n <= api.MaxName
}

func (p *plain) put(name string, x api.Exec) api.Errno {
	if !isName(name) {
		return api.ErrName
	}
	if p.find(name) != nil {
		return api.ErrTwice
	}
	if len(p.list) == p.room {
		return api.ErrFull
	}
	p.list = append(p.list, entry{name, api.Exec{Order: x.Order, Qty: x.Qty, Price: x.Price}})
	return api.OK
}

func (p *plain) bust(name string) api.Errno {
	at := p.find(name)
	if at == nil {
		return api.ErrUnknown
	}
	if at.exec.Busted {
		return api.ErrTwice
	}
	at.exec.Busted = true
	return api.OK
}

// pair is a Seen and the plain list beside it: whatever is done with both, all that is told must be the same.
type pair struct {
	t *testing.T
	s *seen.Seen
	p *plain
}

func newPair(t *testing.T, room int) *pair {
	t.Helper()
	s, e := seen.New(room)
	if s == nil || e != api.OK {
		t.Fatalf("New(%d): %v, %d", room, s, e)
	}
	x := &pair{t, s, &plain{room: room}}
	x.same("a", "e")
	return x
}

// same looks at all that is told: the count, what was met, and that of the others and of what is no name nothing is.
func (x *pair) same(others ...string) {
	x.t.Helper()
	for _, m := range x.p.list {
		x.sameAt(m.name)
	}
	for _, name := range others {
		x.sameAt(name)
	}
	for _, name := range noNames() {
		x.sameAt(name)
	}
	x.sameCount()
}

func (x *pair) sameCount() {
	x.t.Helper()
	if n := x.s.Count(); n != len(x.p.list) {
		x.t.Fatalf("Count(): %d; the document asks for %d", n, len(x.p.list))
	}
}

func (x *pair) sameAt(name string) {
	x.t.Helper()
	if m := x.p.find(name); m != nil {
		wantGet(x.t, x.s, name, m.exec, true)
	} else {
		wantGet(x.t, x.s, name, api.Exec{}, false)
	}
}

func wantGet(t *testing.T, s *seen.Seen, name string, want api.Exec, there bool) {
	t.Helper()
	if got, ok := s.Get(name); got != want || ok != there {
		t.Fatalf("Get(%q): %#v, %v; the document asks for %#v, %v", name, got, ok, want, there)
	}
}

// put and bust do it with both, and look that the answer is the one that is asked for, and then at the name that it is about, and at the count.
func (x *pair) put(name string, exec api.Exec, want api.Errno) {
	x.t.Helper()
	got, asked := x.s.Put(name, exec), x.p.put(name, exec)
	if got != want || asked != want {
		x.t.Fatalf("Put(%q, %#v): %d, by the plain list %d; the document asks for %d", name, exec, got, asked, want)
	}
	x.sameAt(name)
	x.sameCount()
}

func (x *pair) bust(name string, want api.Errno) {
	x.t.Helper()
	got, asked := x.s.Bust(name), x.p.bust(name)
	if got != want || asked != want {
		x.t.Fatalf("Bust(%q): %d, by the plain list %d; the document asks for %d", name, got, asked, want)
	}
	x.sameAt(name)
	x.sameCount()
}

// someNames are such texts as are names: short ones, the longest of runes of each length, and such as are alike.
func someNames() []string {
	return []string{
		"e", "E", "é", "e1", "1e", "!", "~", "€", "😀", "\U0010ffff", "\ufffc", "\u0080", "e<>|;\"\\'",
		strings.Repeat("e", api.MaxName-1), strings.Repeat("e", api.MaxName), strings.Repeat("e", api.MaxName-1) + "f",
		strings.Repeat("é", api.MaxName), strings.Repeat("€", api.MaxName), strings.Repeat("😀", api.MaxName),
	}
}

// noNames are texts that are none: empty, too long, with a sign that is barred, with bytes that are no rune.
func noNames() []string {
	list := []string{
		"", strings.Repeat("e", api.MaxName+1), strings.Repeat("é", api.MaxName+1), strings.Repeat("😀", api.MaxName+1),
		strings.Repeat("e", api.MaxName) + "é", strings.Repeat("e", 1<<12),
	}
	for _, c := range []string{" ", "=", "\x00", "\x01", "\n", "\x1f", "\x7f", "\ufffd", "\x80", "\xc3", "\xe2\x82", "\xff", "\xed\xa0\x80", "\xc0\x80"} {
		list = append(list, c, c+"e", "e"+c, "e"+c+"e", strings.Repeat("e", api.MaxName-1)+c)
	}
	return list
}

// someExecs are executions of any kind, none of them busted: what is met need not be one that could be.
func someExecs() []api.Exec {
	return []api.Exec{
		{}, {Order: "c"}, {Qty: 5}, {Price: 9}, {Order: "c", Qty: 5, Price: 9}, {Order: "c", Qty: 9, Price: 5},
		{Qty: -1, Price: -1}, {Order: "=\x01\xff", Qty: leastInt, Price: greatestInt}, {Order: strings.Repeat("c", 1<<12), Qty: greatestInt, Price: leastInt},
	}
}

// The chapter's example.
func TestExample(t *testing.T) {
	x := newPair(t, 1)
	some := api.Exec{Order: "c1", Qty: 10, Price: 1000}
	x.put("e", some, api.OK)
	x.put("e", some, api.ErrTwice)
	x.put("f", some, api.ErrFull)
	x.bust("e", api.OK)
	x.bust("e", api.ErrTwice)
	some.Busted = true
	wantGet(t, x.s, "e", some, true)
	x.same("f")
}

// P19.1: each room that may be, at its ends and between, has met nothing, and takes so many and no more.
func TestNew(t *testing.T) {
	for _, room := range []int{1, 2, 3, 7, 8, 9, 255, 256, 257, api.MaxSeen - 1, api.MaxSeen} {
		x := newPair(t, room)
		x.same(someNames()...)
		for i := range room {
			x.put(numbered(i), api.Exec{Order: "c", Qty: i, Price: -i}, api.OK)
		}
		x.put(numbered(room), api.Exec{}, api.ErrFull)
		x.put(numbered(room-1), api.Exec{}, api.ErrTwice)
		wantGet(t, x.s, numbered(0), api.Exec{Order: "c"}, true)
		wantGet(t, x.s, numbered(room-1), api.Exec{Order: "c", Qty: room - 1, Price: 1 - room}, true)
		if x.s.Count() != room {
			t.Errorf("a full one of the room %d counts %d", room, x.s.Count())
		}
	}
}

// P19.1: what is out of its limits is refused, and nothing is made.
func TestNewRefused(t *testing.T) {
	for _, room := range []int{leastInt, leastInt + 1, -1 << 32, -api.MaxSeen, -2, -1, 0, api.MaxSeen + 1, api.MaxSeen + 2, 2 * api.MaxSeen, 1 << 32, 1<<32 + 1, greatestInt - 1, greatestInt} {
		if s, e := seen.New(room); s != nil || e != api.ErrArg {
			t.Errorf("New(%d): %v, %d", room, s, e)
		}
	}
}

// P19.1: two that were made have nothing in common.
func TestTwoAreApart(t *testing.T) {
	x, y := newPair(t, 1), newPair(t, 1)
	x.put("e", api.Exec{Order: "c", Qty: 1, Price: 2}, api.OK)
	y.same("e")
	y.bust("e", api.ErrUnknown)
	y.put("e", api.Exec{Order: "d", Qty: 3, Price: 4}, api.OK)
	y.bust("e", api.OK)
	x.same()
	y.same()
}

// The chapter's first rule: of one that is nil, or that New did not make, each call answers ErrNil, or nothing, whatever else it is given.
func TestNotMade(t *testing.T) {
	for what, s := range map[string]*seen.Seen{"nil": nil, "plain": {}} {
		for _, name := range append(someNames(), noNames()...) {
			for _, exec := range append(someExecs(), api.Exec{Busted: true}) {
				if e := s.Put(name, exec); e != api.ErrNil {
					t.Errorf("%s: Put(%q, %#v): %d", what, name, exec, e)
				}
			}
			if e := s.Bust(name); e != api.ErrNil {
				t.Errorf("%s: Bust(%q): %d", what, name, e)
			}
			wantGet(t, s, name, api.Exec{}, false)
		}
		if n := s.Count(); n != 0 {
			t.Errorf("%s: Count(): %d", what, n)
		}
	}
}
