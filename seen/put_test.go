package seen_test

import (
	"strconv"
	"testing"

	"spigot/api"
)

func numbered(i int) string { return "e" + strconv.Itoa(i) }

// P19.2: each name is met with what it is put with, and with nothing else; names that are alike are apart.
func TestPut(t *testing.T) {
	names, execs := someNames(), someExecs()
	x := newPair(t, len(names))
	for i, name := range names {
		x.put(name, execs[i%len(execs)], api.OK)
		x.same(names...)
		wantGet(t, x.s, name, execs[i%len(execs)], true)
	}
}

// P19.2: an execution that is all empty is met like any other: it is told, counts, takes room, is met but once, and may be busted.
func TestEmptyExecution(t *testing.T) {
	x := newPair(t, 2)
	x.put("e", api.Exec{}, api.OK)
	wantGet(t, x.s, "e", api.Exec{}, true)
	x.put("e", api.Exec{}, api.ErrTwice)
	x.put("e", api.Exec{Order: "c", Qty: 1, Price: 1}, api.ErrTwice)
	wantGet(t, x.s, "e", api.Exec{}, true)
	x.put("f", api.Exec{}, api.OK)
	x.put("g", api.Exec{}, api.ErrFull)
	x.bust("e", api.OK)
	wantGet(t, x.s, "e", api.Exec{Busted: true}, true)
	wantGet(t, x.s, "f", api.Exec{}, true)
	x.bust("e", api.ErrTwice)
	x.put("e", api.Exec{}, api.ErrTwice)
	x.same("g")
}

// P19.2: what is put as busted counts as not busted, and may be busted once.
func TestPutBusted(t *testing.T) {
	for _, exec := range someExecs() {
		x := newPair(t, 1)
		busted := exec
		busted.Busted = true
		x.put("e", busted, api.OK)
		wantGet(t, x.s, "e", exec, true)
		x.put("e", busted, api.ErrTwice)
		wantGet(t, x.s, "e", exec, true)
		x.bust("e", api.OK)
		wantGet(t, x.s, "e", busted, true)
		x.bust("e", api.ErrTwice)
		x.put("e", exec, api.ErrTwice)
		wantGet(t, x.s, "e", busted, true)
	}
}

// P19.2, P19.3: a name that was met is refused with the same execution and with any other, and stays met with the first.
func TestPutTwice(t *testing.T) {
	for _, first := range someExecs() {
		x := newPair(t, 3)
		x.put("e", first, api.OK)
		for _, second := range someExecs() {
			x.put("e", second, api.ErrTwice)
			second.Busted = true
			x.put("e", second, api.ErrTwice)
		}
		x.same("f")
		x.put("f", first, api.OK)
		x.put("g", first, api.OK)
		x.put("h", first, api.ErrFull)
		x.same("h")
	}
}

// P19.2: what is no name is refused, and nothing of it is kept.
func TestPutNoName(t *testing.T) {
	x := newPair(t, 2)
	for _, name := range noNames() {
		x.put(name, api.Exec{Order: "c", Qty: 1, Price: 1}, api.ErrName)
	}
	x.put("e", api.Exec{Order: "c", Qty: 1, Price: 1}, api.OK)
	for _, name := range noNames() {
		x.put(name, api.Exec{Order: "d", Qty: 2, Price: 2}, api.ErrName)
	}
	x.same()
	x.put("f", api.Exec{}, api.OK)
}

// P19.2: just at its last place one is taken, and none beyond, for good: nothing makes room.
func TestFull(t *testing.T) {
	for _, room := range []int{1, 2, 5} {
		x := newPair(t, room)
		for i := range room - 1 {
			x.put(numbered(i), api.Exec{Qty: i}, api.OK)
		}
		x.put(numbered(room-1), api.Exec{Qty: room - 1}, api.OK)
		x.put(numbered(room), api.Exec{Qty: room}, api.ErrFull)
		x.put(numbered(room), api.Exec{Qty: room}, api.ErrFull)
		x.same(numbered(room))
		for i := range room {
			x.bust(numbered(i), api.OK)
			x.put(numbered(room), api.Exec{Qty: room}, api.ErrFull)
		}
		x.same(numbered(room))
	}
}

// P19.2, two errors at once: in a full room what is no name is told first, then that a name was met, then that there is no room.
func TestErrorsInAFullRoom(t *testing.T) {
	x := newPair(t, 2)
	x.put("e", api.Exec{Order: "c", Qty: 1, Price: 2}, api.OK)
	x.put("f", api.Exec{}, api.OK)
	for range 2 {
		for _, name := range noNames() {
			x.put(name, api.Exec{}, api.ErrName)
			x.bust(name, api.ErrUnknown)
		}
		x.put("e", api.Exec{Order: "c", Qty: 1, Price: 2}, api.ErrTwice)
		x.put("e", api.Exec{Order: "d", Qty: 3, Price: 4}, api.ErrTwice)
		x.put("f", api.Exec{}, api.ErrTwice)
		x.put("f", api.Exec{Order: "d", Qty: 3, Price: 4}, api.ErrTwice)
		for _, name := range someNames()[1:] {
			x.put(name, api.Exec{}, api.ErrFull)
		}
		x.same(someNames()...)
	}
}

// P19.3: names that were met and their executions' orders are the texts that were put, whatever becomes of the bytes that these were made of.
func TestTextsAreKept(t *testing.T) {
	x := newPair(t, 1)
	name, order := []byte("name"), []byte("order")
	x.put(string(name), api.Exec{Order: string(order), Qty: 1, Price: 2}, api.OK)
	copy(name, "eman")
	copy(order, "redro")
	wantGet(t, x.s, "name", api.Exec{Order: "order", Qty: 1, Price: 2}, true)
	wantGet(t, x.s, "eman", api.Exec{}, false)
}
