package seen_test

import (
	"testing"

	"spigot/api"
)

// P19.2: what was met is busted once; all else of it, and all others, stay as they were.
func TestBust(t *testing.T) {
	names, execs := someNames(), someExecs()
	x := newPair(t, len(names))
	for i, name := range names {
		x.put(name, execs[i%len(execs)], api.OK)
	}
	for i, name := range names {
		x.bust(name, api.OK)
		x.same()
		x.bust(name, api.ErrTwice)
		x.bust(name, api.ErrTwice)
		x.same()
		want := execs[i%len(execs)]
		want.Busted = true
		wantGet(t, x.s, name, want, true)
	}
}

// P19.2: what was not met isn't busted, nor met by that; what is no name, the empty one too, is as unknown as others are.
func TestBustUnknown(t *testing.T) {
	x := newPair(t, 1)
	unknown := append(noNames(), someNames()[1:]...)
	for range 2 {
		for _, name := range unknown {
			x.bust(name, api.ErrUnknown)
		}
		x.same(unknown...)
	}
	x.put("e", api.Exec{Order: "c", Qty: 1, Price: 2}, api.OK)
	for _, name := range unknown {
		x.bust(name, api.ErrUnknown)
	}
	x.same(unknown...)
	wantGet(t, x.s, "e", api.Exec{Order: "c", Qty: 1, Price: 2}, true)
}

// P19.2: an unknown one that was asked to be busted is not busted when it is met later on.
func TestBustAheadOfPut(t *testing.T) {
	x := newPair(t, 1)
	x.bust("e", api.ErrUnknown)
	x.put("e", api.Exec{Order: "c", Qty: 1, Price: 2}, api.OK)
	wantGet(t, x.s, "e", api.Exec{Order: "c", Qty: 1, Price: 2}, true)
	x.bust("e", api.OK)
}

// P19.2, P19.3: what is busted stays met: it counts, takes its room, and is not met anew.
func TestBustedStaysMet(t *testing.T) {
	x := newPair(t, 2)
	x.put("e", api.Exec{Order: "c", Qty: 1, Price: 2}, api.OK)
	x.bust("e", api.OK)
	x.put("e", api.Exec{Order: "d", Qty: 3, Price: 4}, api.ErrTwice)
	x.put("f", api.Exec{Order: "d", Qty: 3, Price: 4}, api.OK)
	x.put("g", api.Exec{}, api.ErrFull)
	x.put("e", api.Exec{Order: "d", Qty: 3, Price: 4}, api.ErrTwice)
	x.bust("e", api.ErrTwice)
	x.same("g")
	wantGet(t, x.s, "e", api.Exec{Order: "c", Qty: 1, Price: 2, Busted: true}, true)
	wantGet(t, x.s, "f", api.Exec{Order: "d", Qty: 3, Price: 4}, true)
}

// P19.2: what Get hands out is a value: changing it changes nothing that is kept, and asking changes nothing.
func TestGetHandsOutAValue(t *testing.T) {
	x := newPair(t, 1)
	x.put("e", api.Exec{Order: "c", Qty: 1, Price: 2}, api.OK)
	for range 3 {
		got, _ := x.s.Get("e")
		got.Order, got.Qty, got.Busted = "d", 9, true
		x.same("f")
	}
	x.bust("e", api.OK)
}
