package roster_test

import (
	"slices"
	"strconv"
	"strings"
	"testing"

	"spigot/api"
	"spigot/roster"
)

const (
	least = -1 << 63
	most  = 1<<63 - 1
)

func newRoster(t *testing.T, room int) *roster.Roster {
	t.Helper()
	r, e := roster.New(room)
	if r == nil || e != api.OK {
		t.Fatalf("New(%d): %v, %d", room, r, e)
	}
	return r
}

// filled is a roster of a room whose names have the slots from 0 on.
func filled(t *testing.T, room int, list ...string) *roster.Roster {
	t.Helper()
	r := newRoster(t, room)
	for i, name := range list {
		wantPut(t, r, name, i, api.OK)
	}
	return r
}

func wantPut(t *testing.T, r *roster.Roster, name string, slot int, e api.Errno) {
	t.Helper()
	if s, got := r.Put(name); s != slot || got != e {
		t.Fatalf("Put(%q): %d, %d; asked for: %d, %d", name, s, got, slot, e)
	}
}

func wantDrop(t *testing.T, r *roster.Roster, name string, e api.Errno) {
	t.Helper()
	if got := r.Drop(name); got != e {
		t.Fatalf("Drop(%q): %d; asked for: %d", name, got, e)
	}
}

// wantSlots holds all that a roster tells against the names that its slots have ("": none).
func wantSlots(t *testing.T, r *roster.Roster, slots []string) {
	t.Helper()
	var there []string
	for slot, name := range slots {
		if got, ok := r.Name(slot); got != name || ok != (name != "") {
			t.Fatalf("Name(%d): %q, %v; asked for: %q", slot, got, ok, name)
		}
		if name == "" {
			continue
		}
		there = append(there, name)
		if got, ok := r.Find(name); got != slot || !ok {
			t.Fatalf("Find(%q): %d, %v; asked for: %d", name, got, ok, slot)
		}
	}
	for _, slot := range []int{least, -2, -1, len(slots), len(slots) + 1, api.MaxRoster, most} {
		if got, ok := r.Name(slot); got != "" || ok {
			t.Fatalf("Name(%d): %q, %v", slot, got, ok)
		}
	}
	if n := r.Count(); n != len(there) {
		t.Fatalf("Count: %d; asked for: %d", n, len(there))
	}
	slices.SortFunc(there, byBytes)
	if got := r.Sorted(); !slices.Equal(got, there) {
		t.Fatalf("Sorted: %q; asked for: %q", got, there)
	}
}

// byBytes is the order of names, by the document's words.
func byBytes(a, b string) int {
	return slices.Compare([]byte(a), []byte(b))
}

func wantNoFind(t *testing.T, r *roster.Roster, list ...string) {
	t.Helper()
	for _, name := range list {
		if slot, ok := r.Find(name); slot != 0 || ok {
			t.Fatalf("Find(%q): %d, %v", name, slot, ok)
		}
	}
}

// P4.1.
func TestNew(t *testing.T) {
	for _, room := range []int{least, -api.MaxRoster, -1, 0, api.MaxRoster + 1, 1 << 40, most} {
		if r, e := roster.New(room); r != nil || e != api.ErrArg {
			t.Errorf("New(%d): %v, %d", room, r, e)
		}
	}
	for _, room := range []int{1, 2, 3, api.MaxRoster - 1, api.MaxRoster} {
		r := newRoster(t, room)
		wantSlots(t, r, make([]string, room))
		wantNoFind(t, r, "a", "")
		slots := make([]string, room)
		for i := range slots {
			slots[i] = "n" + strconv.Itoa(i)
			wantPut(t, r, slots[i], i, api.OK)
		}
		wantPut(t, r, "one-more", 0, api.ErrFull)
		wantSlots(t, r, slots)
	}
}

// The chapter's examples.
func TestExamples(t *testing.T) {
	r := newRoster(t, 2)
	wantPut(t, r, "b", 0, api.OK)
	wantPut(t, r, "a", 1, api.OK)
	wantPut(t, r, "c", 0, api.ErrFull)
	wantDrop(t, r, "b", api.OK)
	wantPut(t, r, "c", 0, api.OK)
	wantSlots(t, r, []string{"c", "a"})
	wantPut(t, r, "a=b", 0, api.ErrName)
	wantPut(t, r, "", 0, api.ErrName)
	wantSlots(t, r, []string{"c", "a"})
}

// P4.2: each text that is a name can be put, found and dropped; no other one can.
func TestNamesAndOthers(t *testing.T) {
	list := names()
	r := filled(t, len(list)+1, list...)
	wantSlots(t, r, append(slices.Clone(list), ""))
	for _, s := range others() {
		wantPut(t, r, s, 0, api.ErrName)
		wantDrop(t, r, s, api.ErrUnknown)
		wantNoFind(t, r, s)
	}
	wantSlots(t, r, append(slices.Clone(list), ""))
	for _, name := range list {
		wantPut(t, r, name, 0, api.ErrTwice)
		wantDrop(t, r, name, api.OK)
		wantDrop(t, r, name, api.ErrUnknown)
		wantNoFind(t, r, name)
	}
	wantSlots(t, r, make([]string, len(list)+1))
}

// P4.2: which error is told, where two apply; none of them changes anything.
func TestTwoErrorsAtOnce(t *testing.T) {
	for _, list := range [][]string{{"a"}, {"b", "a"}, {"a", "c", "b"}} {
		r := filled(t, len(list), list...)
		for _, s := range others() {
			wantPut(t, r, s, 0, api.ErrName)
			wantDrop(t, r, s, api.ErrUnknown)
		}
		for _, name := range list {
			wantPut(t, r, name, 0, api.ErrTwice)
		}
		wantPut(t, r, "d", 0, api.ErrFull)
		wantDrop(t, r, "d", api.ErrUnknown)
		wantSlots(t, r, list)
	}
}

// P4.2, P4.4: behind drops in any order the least free slot is taken, and all others keep theirs.
func TestLeastFreeSlot(t *testing.T) {
	list := []string{"d", "b", "e", "a", "c"}
	for order := range orders(len(list)) {
		for many := range len(list) + 1 {
			r := filled(t, len(list), list...)
			slots := slices.Clone(list)
			for _, slot := range order[:many] {
				wantDrop(t, r, list[slot], api.OK)
				slots[slot] = ""
				wantSlots(t, r, slots)
			}
			// Names that go ahead of the others, between them, and behind them.
			for _, name := range []string{"A", "cc", "f", "bb", "B"}[:many] {
				slot := slices.Index(slots, "")
				wantPut(t, r, name, slot, api.OK)
				slots[slot] = name
				wantSlots(t, r, slots)
			}
			wantPut(t, r, "g", 0, api.ErrFull)
		}
	}
}

// orders tells each order of the numbers from 0 to n - 1.
func orders(n int) func(func([]int) bool) {
	return func(yield func([]int) bool) {
		var rest func(order []int) bool
		rest = func(order []int) bool {
			if len(order) == n {
				return yield(order)
			}
			for i := range n {
				if !slices.Contains(order, i) && !rest(append(slices.Clone(order), i)) {
					return false
				}
			}
			return true
		}
		rest(nil)
	}
}

// P4.2, P4.4: a name that comes back has the least free slot, not the one that it had.
func TestComesBack(t *testing.T) {
	r := filled(t, 4, "a", "b", "c")
	wantDrop(t, r, "c", api.OK)
	wantDrop(t, r, "a", api.OK)
	wantPut(t, r, "c", 0, api.OK)
	wantPut(t, r, "a", 2, api.OK)
	wantPut(t, r, "d", 3, api.OK)
	wantSlots(t, r, []string{"c", "b", "a", "d"})
}

// P4.3: the order is that of bytes: not that of letters, of lengths, of signed bytes, or of runes in two words.
func TestOrder(t *testing.T) {
	sorted := []string{
		"!", "+", "-1", "0", "1", "10", "2", "A", "AB", "B", "Z", "Za", "a", "a!", "aa", "aaa", "ab", "aé", "a😀", "b",
		"z", "za", "~", "~~", "\u0080", "e\u0301", "é", "éa", "éé", "ÿ", "Ā", "€", "\ue000", "｡", "\uffff", "\U00010000", "😀", "😀a", "\U0010ffff",
	}
	slices.SortFunc(sorted, byBytes)
	for _, pair := range [][2]string{
		{"Z", "a"}, {"10", "2"}, {"a", "aa"}, {"a", "a!"}, {"aaa", "ab"}, {"~", "é"}, {"｡", "😀"}, {"\uffff", "\U00010000"}, {"aé", "a😀"}, {"z", "\u0080"},
	} {
		for _, list := range [][]string{{pair[0], pair[1]}, {pair[1], pair[0]}} {
			if got := filled(t, 2, list...).Sorted(); !slices.Equal(got, pair[:]) {
				t.Errorf("Sorted: %q; asked for: %q", got, pair)
			}
		}
	}
	back := slices.Clone(sorted)
	slices.Reverse(back)
	mixed := slices.Concat(sorted[len(sorted)/2:], sorted[:len(sorted)/2])
	for _, list := range [][]string{sorted, back, mixed} {
		if got := filled(t, len(list), list...).Sorted(); !slices.Equal(got, sorted) {
			t.Errorf("Sorted: %q; asked for: %q", got, sorted)
		}
	}
}

// P4.3: what isn't there isn't found: what begins with a name, what a name begins with, and what lies beside it.
func TestNotFound(t *testing.T) {
	r := filled(t, 3, "bb", "dd")
	wantNoFind(t, r, "", "a", "b", "ba", "bbb", "bc", "c", "d", "dc", "ddd", "e", "BB", "bb ", " bb", "bb=", "\xff", strings.Repeat("b", 100))
	wantSlots(t, r, []string{"bb", "dd", ""})
}

// Rule 1, and what the chapter says of a roster that is nil, or that New did not make.
func TestNotMade(t *testing.T) {
	var plain roster.Roster
	for _, r := range []*roster.Roster{nil, {}, &plain, new(roster.Roster)} {
		for range 2 {
			for _, name := range []string{"a", "", "a=b", "\xff", strings.Repeat("a", 21)} {
				wantPut(t, r, name, 0, api.ErrNil)
				wantDrop(t, r, name, api.ErrNil)
				wantNoFind(t, r, name)
			}
			wantSlots(t, r, nil)
			if name, ok := r.Name(0); name != "" || ok {
				t.Errorf("Name(0): %q, %v", name, ok)
			}
		}
	}
	if plain.Count() != 0 || len(plain.Sorted()) != 0 {
		t.Error("something is kept")
	}
}

// Rule 4: a list that was answered is nobody else's, its spare room neither.
func TestListsAreLeftAlone(t *testing.T) {
	r := filled(t, 4, "b", "c", "a")
	list, other := r.Sorted(), r.Sorted()
	whole := list[:cap(list)]
	for i := range whole {
		whole[i] = "z"
	}
	wantSlots(t, r, []string{"b", "c", "a", ""})
	if !slices.Equal(other, []string{"a", "b", "c"}) {
		t.Errorf("two answers share: %q", other)
	}
	wantPut(t, r, "aa", 3, api.OK)
	wantDrop(t, r, "b", api.OK)
	if !slices.Equal(other, []string{"a", "b", "c"}) {
		t.Errorf("an answer is changed by later calls: %q", other)
	}
	for _, name := range whole {
		if name != "z" {
			t.Errorf("an answer's room is written by later calls: %q", whole)
		}
	}
	wantSlots(t, r, []string{"", "c", "a", "aa"})
}

// A name is kept as it was, whatever becomes of the bytes that it was made of.
func TestNamesAreKept(t *testing.T) {
	r := newRoster(t, 2)
	bytes := []byte("abc")
	wantPut(t, r, string(bytes), 0, api.OK)
	bytes[0] = 'z'
	wantSlots(t, r, []string{"abc", ""})
}

// Two rosters have nothing to do with each other.
func TestTwoRosters(t *testing.T) {
	a, b := filled(t, 2, "x", "y"), filled(t, 2, "y")
	wantDrop(t, a, "y", api.OK)
	wantPut(t, b, "z", 1, api.OK)
	wantSlots(t, a, []string{"x", ""})
	wantSlots(t, b, []string{"y", "z"})
}

// asked is what the document asks of Put, of the names that slots have.
func asked(slots []string, name string) (slot int, e api.Errno) {
	if slices.Contains(slots, name) {
		return 0, api.ErrTwice
	}
	slot = slices.Index(slots, "")
	if slot < 0 {
		return 0, api.ErrFull
	}
	return slot, api.OK
}

// P4.2 to P4.4, of many puts and drops in a mixed order, the same one at each run.
func TestMixed(t *testing.T) {
	x := uint64(88172645463325252)
	next := func(n int) int {
		x ^= x << 13
		x ^= x >> 7
		x ^= x << 17
		return int(x>>1) % n
	}
	pieces := []string{"a", "B", "é", "€", "😀", "~", "1", "!"}
	for _, c := range []struct{ room, names, steps int }{
		{1, 3, 300}, {2, 4, 1000}, {3, 5, 2000}, {7, 12, 4000}, {64, 100, 4000}, {api.MaxRoster, 1500, 4000},
	} {
		r, slots := newRoster(t, c.room), make([]string, c.room)
		for step := range c.steps {
			n := next(c.names)
			name := pieces[n%len(pieces)] + strconv.Itoa(n)
			place := slices.Index(slots, name)
			if step > c.steps/2 && next(5) < 2 || next(4) == 0 {
				e := api.ErrUnknown
				if place >= 0 {
					slots[place], e = "", api.OK
				}
				wantDrop(t, r, name, e)
			} else {
				slot, e := asked(slots, name)
				if e == api.OK {
					slots[slot] = name
				}
				wantPut(t, r, name, slot, e)
			}
			if c.room < 100 || step%50 == 0 {
				wantSlots(t, r, slots)
			}
		}
		wantSlots(t, r, slots)
	}
}
