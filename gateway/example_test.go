package gateway_test

import (
	"testing"

	"spigot/api"
)

// P is the document's P, taken by a gateway of its setup.
func exampleP(t *testing.T) *pair {
	t.Helper()
	x := newPair(t, example())
	x.want(x.ask(order0("p")), api.OK, stands(1, "p", 0, 0, 100))
	x.wantBook(0, 100000, 0, 100000)
	return x
}

// The document's ten examples.
func TestExamples(t *testing.T) {
	x := exampleP(t)
	x.want(x.ask(order0("p")), api.ErrTwice, notTaken(2, "p", 41))
	x.want(x.ask(order0("q")), api.ErrLimit, notTaken(3, "q", 170))
	x.want(x.tick(), api.OK, newOut(1, 1, "c1", "X", api.Buy, 10, 1000))
	x.want(x.say("V", trades("c1", "e", 10, 995)), api.OK, report(4, "p", 1, 10, 995, 10, 90, 0))
	x.wantNet(0, 0, 10)

	x = exampleP(t)
	x.ticks(1)
	x.want(x.say("V", trades("c1", "e", 11, 995)), api.ErrBig, reject(1, 11, 3))
	x.wantFaults(true, 1)
	x.want(x.tick(), api.OK, cancelOut(1, 2, "c1"))

	x = exampleP(t)
	x.want(x.ask(cancelOf("p")), api.OK, stands(2, "p", 6, 0, 0), stands(3, "p", 4, 0, 0))
	x.wantBook(0, 0, 0, 0)

	x = newPair(t, example())
	x.want(x.raw("x"), api.ErrBegin, "0 35=3|371=0|373=101|")

	x = exampleP(t)
	x.want(x.ask(pauseOf("p")), api.OK, stands(2, "p", 9, 0, 100))
	x.want(x.ask(pauseOf("p")), api.ErrState, notDone("z", 9, 200))

	x = newPair(t, example())
	x.done(x.kill())
	x.want(x.ask(order0("p")), api.ErrKilled, notTaken(1, "p", 283))
}

// The chapter's examples.
func TestChaptersExamples(t *testing.T) {
	x := newPair(t, example())
	a := order0("p")
	a.Account = "B"
	x.want(x.ask(a), api.ErrUnknown, notTaken(1, "p", 42))
	for _, bytes := range []string{"", "x", "8=FIX.4.4", "\x00\x00", "35=D\x01", "hello"} {
		if got := x.raw(bytes); len(got.out) != 1 || field(got.out[0], "35") != "3" || field(got.out[0], "371") != "0" {
			t.Errorf("%q: %+v", bytes, got)
		}
	}
}
