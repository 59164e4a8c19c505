package audit_test

import (
	"reflect"
	"strconv"
	"testing"

	"spigot/api"
)

// W1: whatever comes to a gateway, each single thing that happens is one that the rules allow: runs by chance over many setups, small ones and ones near the limits.
func TestWhateverComes(t *testing.T) {
	met := map[string]int{}
	for number := range 600 {
		x := begin(t, number, met)
		for range 300 {
			x.step()
			x.note()
		}
	}
	for _, call := range []string{
		"tick 0", "print 0", "print 2", "print 42", "new 0", "new 22", "new 40", "new 42", "new 160", "new 170", "new 282", "new 283",
		"cancel 0", "cancel 281", "pause 0", "pause 200", "resume 0", "resume 200", "resume 283", "amend 0", "amend 160", "amend 170", "amend 281", "amend 282",
		"reply 0", "reply 200", "reply 220", "reply 221", "trade 0", "trade 3", "trade 22", "trade 40", "trade 200", "bust 0", "bust 40", "bust 41", "bust 42", "bust 200",
		"bytes 100", "bytes 101", "bytes of a venue 42", "bytes of a venue 100", "kill 0", "kill 200", "go on 0", "go on 200",
		"state 1", "state 2", "state 3", "state 4", "state 5", "state 6", "algo 1", "algo 2", "algo 3", "algo 4", "side 1", "side 2", "busted", "faults", "held while killed",
		"child 1", "child 2", "child 3", "child 4", "child 5", "child 6", "child 7", "child 8",
	} {
		if met[call] < 10 {
			t.Errorf("%s was met %d times only", call, met[call])
		}
	}
}

// note counts what there is.
func (x *run) note() {
	for i, p := range x.view.Parents {
		x.met["state "+strconv.Itoa(p.State)]++
		x.met["algo "+strconv.Itoa(p.Algo)]++
		x.met["side "+strconv.Itoa(p.Side)]++
		x.met["busted"] += min(p.Busted, 1)
		if x.view.Killed {
			x.met["held while killed"] += min(x.view.Held[i], 1)
		}
		for _, c := range p.Children {
			x.met["child "+strconv.Itoa(c.State)]++
		}
	}
	for _, n := range x.view.Faults {
		x.met["faults"] += n
	}
}

// P30.1, P30.2: views of such runs, as they are, far apart, and with one number one more or one less, are told as the plain reckoning tells them.
func TestViewsOfRuns(t *testing.T) {
	met := map[string]int{}
	for number := range 60 {
		x := begin(t, 5000+number, map[string]int{})
		views := []api.View{x.view}
		for range 150 {
			x.step()
			views = append(views, x.view)
		}
		for range 400 {
			i := x.r.IntN(len(views) - 1)
			y := &pair{s: x.s, a: cloned(views[i]), b: cloned(views[i+1]), met: met}
			if x.oneIn(4) {
				y.b = cloned(some(x.r, views...))
			}
			if !x.oneIn(8) {
				numbers, _ := fields(reflect.ValueOf(some(x.r, &y.a, &y.b)).Elem())
				*numbers[x.r.IntN(len(numbers))] += some(x.r, -1, 1)
			}
			if n := len(y.b.Parents); n > 0 && x.oneIn(8) {
				place := x.r.IntN(n)
				hold(&y.b, place, y.b.Held[place]+some(x.r, -1, 1))
			}
			if x.oneIn(8) {
				y.stirLists(x.r)
			}
			y.look(t)
		}
	}
	for n := range 13 {
		if met["Step "+strconv.Itoa(n)] == 0 {
			t.Errorf("rule %d was never met", n)
		}
	}
}
