package seen_test

import (
	"math/rand/v2"
	"testing"

	"spigot/api"
)

// someName is one of a few names, now and then a text that is none.
func someName(r *rand.Rand, many int) string {
	switch r.IntN(20) {
	case 0:
		return noNames()[r.IntN(len(noNames()))]
	case 1:
		return someNames()[r.IntN(len(someNames()))]
	}
	return numbered(r.IntN(many))
}

func someExec(r *rand.Rand) api.Exec {
	if r.IntN(4) == 0 {
		return someExecs()[r.IntN(len(someExecs()))]
	}
	return api.Exec{Order: numbered(r.IntN(9)), Qty: 1 + r.IntN(api.MaxQty), Price: 1 + r.IntN(api.MaxPrice), Busted: r.IntN(3) == 0}
}

// firsts is what each name was met with, as it was when it was met.
type firsts map[string]api.Exec

// stay looks that each that was met is met still, with what it was met with, but that it may be busted.
func (f firsts) stay(x *pair) {
	x.t.Helper()
	for name, first := range f {
		got, ok := x.s.Get(name)
		got.Busted = false
		if !ok || got != first {
			x.t.Fatalf("%q was met with %#v; now it is %#v, %v", name, first, got, ok)
		}
	}
	if x.s.Count() != len(f) {
		x.t.Fatalf("%d were met, %d are counted", len(f), x.s.Count())
	}
}

// step does one thing that comes by chance; it notes what was met by it.
func (x *pair) step(r *rand.Rand, many int, f firsts) {
	x.t.Helper()
	name := someName(r, many)
	switch r.IntN(3) {
	case 0:
		exec := someExec(r)
		want := (&plain{x.p.room, append([]entry(nil), x.p.list...)}).put(name, exec)
		x.put(name, exec, want)
		if want == api.OK {
			exec.Busted = false
			f[name] = exec
		}
	case 1:
		want := (&plain{x.p.room, append([]entry(nil), x.p.list...)}).bust(name)
		x.bust(name, want)
	default:
		x.sameAt(name)
	}
}

// P19.2, P19.3: long runs of Put, Bust and Get, held against a plain list, in rooms that are full soon, late, and never; what was met stays met with what it was met with.
func TestMixed(t *testing.T) {
	for i, room := range []int{1, 2, 3, 10, 60, 200, api.MaxSeen} {
		r := rand.New(rand.NewPCG(19, uint64(i)))
		many := min(room+room/4+2, 300)
		x, f := newPair(t, room), firsts{}
		for n := range 3000 {
			x.step(r, many, f)
			if n%50 == 0 {
				x.same(someName(r, many))
				f.stay(x)
			}
		}
		x.same(someNames()...)
		f.stay(x)
	}
}

// P19.3: a room of MaxSeen is filled and busted in another order; each stays met with its own execution.
func TestMany(t *testing.T) {
	x := newPair(t, api.MaxSeen)
	r := rand.New(rand.NewPCG(19, 100))
	for i := range api.MaxSeen {
		if e := x.s.Put(numbered(i), api.Exec{Order: numbered(i), Qty: i, Price: -i}); e != api.OK || x.s.Count() != i+1 {
			t.Fatalf("Put of the one at %d: %d, Count() %d", i, e, x.s.Count())
		}
	}
	busted := make([]bool, api.MaxSeen)
	for _, i := range r.Perm(api.MaxSeen)[:api.MaxSeen/2] {
		if e := x.s.Bust(numbered(i)); e != api.OK {
			t.Fatalf("Bust of the one at %d: %d", i, e)
		}
		busted[i] = true
	}
	for i := range api.MaxSeen {
		wantGet(t, x.s, numbered(i), api.Exec{Order: numbered(i), Qty: i, Price: -i, Busted: busted[i]}, true)
	}
	if e := x.s.Put("f", api.Exec{}); e != api.ErrFull || x.s.Count() != api.MaxSeen {
		t.Fatalf("Put in a full room: %d, Count() %d", e, x.s.Count())
	}
}
