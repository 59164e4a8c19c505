package ask_test

import (
	"slices"
	"strings"
	"testing"

	"spigot/api"
	"spigot/ask"
)

// isNew, isAmend and so on say which asks use a field.
func isNew(a api.Ask) bool    { return a.Kind == api.AskNew }
func isAny(a api.Ask) bool    { return true }
func notNew(a api.Ask) bool   { return a.Kind != api.AskNew }
func hasWorth(a api.Ask) bool { return a.Kind == api.AskNew || a.Kind == api.AskAmend }
func isVwap(a api.Ask) bool   { return a.Kind == api.AskNew && a.Algo == api.Vwap }
func isFlow(a api.Ask) bool   { return a.Kind == api.AskNew && a.Algo == api.Flow }
func isBerg(a api.Ask) bool   { return a.Kind == api.AskNew && a.Algo == api.Berg }

// name is a field that holds a name.
type name struct {
	tag  string
	used func(a api.Ask) bool
	at   func(a *api.Ask) *string
}

func names() []name {
	return []name{
		{"11", isAny, func(a *api.Ask) *string { return &a.ID }},
		{"41", notNew, func(a *api.Ask) *string { return &a.Target }},
		{"1", isNew, func(a *api.Ask) *string { return &a.Account }},
		{"55", isNew, func(a *api.Ask) *string { return &a.Symbol }},
	}
}

// number is a field that holds a number, and its ends.
type number struct {
	tag       string
	used      func(a api.Ask) bool
	at        func(a *api.Ask) *int
	low, high int
}

// numbers are all but Algo, by which others are used or not, and Start and End, which hang on each other.
func numbers() []number {
	return []number{
		{"54", isNew, func(a *api.Ask) *int { return &a.Side }, 1, 2},
		{"38", hasWorth, func(a *api.Ask) *int { return &a.Qty }, 1, 1 << 40},
		{"44", hasWorth, func(a *api.Ask) *int { return &a.Price }, 1, 1 << 40},
		{"5004", isFlow, func(a *api.Ask) *int { return &a.Rate }, 1, 10000},
		{"5005", isBerg, func(a *api.Ask) *int { return &a.Show }, 1, 1 << 40},
	}
}

// badNames are texts that are none.
func badNames() []string {
	return []string{"", " ", "=", "a b", "a=b", "\x01", "a\x01", "a\x0138=5", "\x00", "\x1f", "\x7f", "\xff", "a\xc3", "\xed\xa0\x80", "\ufffd", "a\ufffdb", strings.Repeat("a", api.MaxName+1), strings.Repeat("😀", api.MaxName+1), strings.Repeat("a", 1000)}
}

// P12.1: names where they are used, and nothing where they are not.
func TestRightNames(t *testing.T) {
	for _, g := range goods() {
		for _, n := range names() {
			for _, text := range []string{"a", "!", "~", "é", "1", "0", "-1", "1,2", strings.Repeat("a", api.MaxName), strings.Repeat("😀", api.MaxName)} {
				a := g.ask
				*n.at(&a) = text
				if n.used(a) {
					wantRight(t, a)
				} else {
					wantWrong(t, a)
				}
			}
			for _, text := range badNames() {
				a := g.ask
				*n.at(&a) = text
				if text == "" && !n.used(a) {
					wantRight(t, a)
				} else {
					wantWrong(t, a)
				}
			}
		}
	}
}

// P12.1: numbers at their ends and beyond them, and nothing where they are not used.
func TestRightNumbers(t *testing.T) {
	for _, g := range goods() {
		for _, n := range numbers() {
			for _, value := range []int{leastInt, leastInt + 1, -1 << 40, -2, -1, 0, 1, 2, 3, 9999, 10000, 10001, 1 << 32, 1<<40 - 1, 1 << 40, 1<<40 + 1, 1 << 41, 1<<40 + 1<<32, greatestInt} {
				a := g.ask
				*n.at(&a) = value
				within := value >= n.low && value <= n.high
				if n.used(a) && within || !n.used(a) && value == 0 {
					wantRight(t, a)
				} else {
					wantWrong(t, a)
				}
			}
		}
	}
}

// P12.1: Start and End of a new order: each from 0 to MaxTime, End above Start by at most MaxSpan.
func TestRightSpan(t *testing.T) {
	const most, span = 1 << 40, 1 << 30
	right := [][2]int{{0, 1}, {0, span}, {1, 2}, {3, 4}, {5, 5 + span}, {most - 1, most}, {most - span, most}, {most - span, most - span + 1}, {0, 2}, {0, span - 1}}
	wrong := [][2]int{
		{0, 0}, {1, 1}, {1, 0}, {5, 4}, {most, most}, {most, 0}, {most, most - 1}, {span, 0},
		{0, span + 1}, {0, most}, {1, span + 2}, {most - span - 1, most}, {0, 1<<32 + 1}, {0, 1 << 31},
		{-1, 0}, {-1, 1}, {-1, 5}, {-2, -1}, {0, -1}, {most, most + 1}, {most - 1, most + 1}, {most + 1, most + 2}, {most - span, most + 1},
		{leastInt, leastInt + 1}, {leastInt, greatestInt}, {greatestInt - 1, greatestInt}, {greatestInt, leastInt}, {greatestInt, leastInt + 1}, {0, greatestInt}, {0, leastInt}, {1, leastInt}, {leastInt, 0},
	}
	for _, g := range goods() {
		if g.ask.Kind != api.AskNew {
			continue
		}
		for _, pair := range right {
			a := g.ask
			a.Start, a.End = pair[0], pair[1]
			wantRight(t, a)
		}
		for _, pair := range wrong {
			a := g.ask
			a.Start, a.End = pair[0], pair[1]
			wantWrong(t, a)
		}
	}
}

// P12.1: an amendment's End hangs on nothing else; other kinds have no End, and none but new orders a Start.
func TestRightEnd(t *testing.T) {
	for _, g := range goods() {
		if g.ask.Kind == api.AskNew {
			continue
		}
		for _, value := range []int{leastInt, -1, 0, 1, 1 << 30, 1<<30 + 1, 1<<40 - 1, 1 << 40, 1<<40 + 1, greatestInt} {
			a := g.ask
			a.End = value
			if value == 0 || a.Kind == api.AskAmend && value > 0 && value <= 1<<40 {
				wantRight(t, a)
			} else {
				wantWrong(t, a)
			}
			a = g.ask
			a.Start = value
			if value == 0 {
				wantRight(t, a)
			} else {
				wantWrong(t, a)
			}
		}
	}
}

// P12.1: an algorithm that is none, and one where none is used.
func TestRightAlgo(t *testing.T) {
	for _, g := range goods() {
		for _, algo := range []int{leastInt, -4, -3, -2, -1, 0, 1, 2, 3, 4, 5, 6, 1<<8 + 1, 1<<32 + 1, greatestInt} {
			a := g.ask
			a.Algo = algo
			if algo == g.ask.Algo {
				wantRight(t, a)
			} else {
				wantWrong(t, a)
			}
		}
	}
}

// P12.1: for each algorithm just what it wants is set: each set of the three is tried.
func TestRightWants(t *testing.T) {
	for algo := api.Twap; algo <= api.Berg; algo++ {
		for set := range 8 {
			a := newOrder(algo)
			if set&1 > 0 {
				a.Curve = []int{1}
			}
			if set&2 > 0 {
				a.Rate = 1
			}
			if set&4 > 0 {
				a.Show = 1
			}
			if set == [...]int{api.Twap: 0, api.Vwap: 1, api.Flow: 2, api.Berg: 4}[algo] {
				wantRight(t, a)
			} else {
				wantWrong(t, a)
			}
		}
	}
}

// rightCurves and wrongCurves are weights at the edges; those that no body can hold are among the wrong ones.
func rightCurves() [][]int {
	return [][]int{{1}, {api.MaxWeight}, {0, 1}, {1, 0}, {0, 0, 7, 0}, slices.Repeat([]int{1}, api.MaxBuckets), slices.Repeat([]int{api.MaxWeight}, api.MaxBuckets), append(make([]int, api.MaxBuckets-1), 1)}
}

func wrongCurves() [][]int {
	return [][]int{{0}, {0, 0}, make([]int, api.MaxBuckets), {-1}, {1, -1}, {-1, 2}, {api.MaxWeight + 1}, {1, api.MaxWeight + 1}, {leastInt}, {greatestInt}, {leastInt, leastInt}, {greatestInt, 1}, slices.Repeat([]int{1}, api.MaxBuckets+1), append(make([]int, api.MaxBuckets), 1), make([]int, 1000)}
}

// P12.1: curves of Vwap, and none elsewhere; an empty one is none.
func TestRightCurve(t *testing.T) {
	room := []int{1, 2, 3}
	for _, g := range goods() {
		for _, weights := range rightCurves() {
			a := g.ask
			a.Curve = weights
			if isVwap(a) {
				wantRight(t, a)
			} else {
				wantWrong(t, a)
			}
		}
		for _, weights := range wrongCurves() {
			a := g.ask
			a.Curve = weights
			wantWrong(t, a)
		}
		for _, none := range [][]int{nil, {}, room[:0]} {
			a := g.ask
			a.Curve = none
			if isVwap(a) {
				wantWrong(t, a)
			} else {
				wantRight(t, a)
			}
		}
	}
}

// What is handed in stays as it is, its spare room too, and is not kept.
func TestNothingIsChanged(t *testing.T) {
	room := []int{9, 1, 2, 9, 9}
	a := newOrder(api.Vwap)
	a.Curve = room[1:3]
	first, _ := ask.Encode(a)
	if !ask.Right(a) || !slices.Equal(room, []int{9, 1, 2, 9, 9}) || len(a.Curve) != 2 {
		t.Fatal(room, a)
	}
	if first != text(newFields("2", "5006=1,2")...) {
		t.Fatalf("%q", first)
	}
	room[1] = 7
	second, _ := ask.Encode(a)
	if second != text(newFields("2", "5006=7,2")...) || first != text(newFields("2", "5006=1,2")...) {
		t.Fatalf("%q, %q", first, second)
	}
	room[2] = 0
	room[1] = 0
	wantWrong(t, a)
}
