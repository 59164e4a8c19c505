package tell_test

import (
	"strings"
	"testing"

	"spigot/api"
)

// isReport, hasID and so on say which tells use a field.
func isReport(x api.Tell) bool { return x.Kind == api.TellReport }
func hasID(x api.Tell) bool    { return x.Kind == api.TellReport || x.Kind == api.TellCancel }
func hasTag(x api.Tell) bool   { return x.Kind == api.TellReject || x.Kind == api.TellOther }
func isAny(api.Tell) bool      { return true }

// name is a field that holds a name.
type name struct {
	tag  int
	used func(x api.Tell) bool
	at   func(x *api.Tell) *string
}

func names() []name {
	return []name{
		{11, hasID, func(x *api.Tell) *string { return &x.ID }},
		{17, isReport, func(x *api.Tell) *string { return &x.Exec }},
	}
}

// number is a field that holds a number from 0 to high; tag is that of a kind.
type number struct {
	tag  func(kind int) int
	used func(x api.Tell) bool
	at   func(x *api.Tell) *int
	high int
}

func numbers() []number {
	always := func(tag int) func(int) int {
		return func(int) int { return tag }
	}
	reason := func(kind int) int {
		return [...]int{api.TellReport: 103, api.TellCancel: 103, api.TellReject: 373, api.TellOther: 380}[kind]
	}
	return []number{
		{always(39), hasID, func(x *api.Tell) *int { return &x.Status }, 9},
		{always(32), isReport, func(x *api.Tell) *int { return &x.Last }, 1 << 40},
		{always(31), isReport, func(x *api.Tell) *int { return &x.Price }, 1 << 40},
		{always(14), isReport, func(x *api.Tell) *int { return &x.Cum }, 1 << 40},
		{always(151), isReport, func(x *api.Tell) *int { return &x.Leaves }, 1 << 40},
		{always(371), hasTag, func(x *api.Tell) *int { return &x.Tag }, 99999},
		{reason, isAny, func(x *api.Tell) *int { return &x.Reason }, 999},
	}
}

// goodNames and badNames are texts at the edges of names.
func goodNames() []string {
	return []string{"a", "!", "~", "é", "1", "0", "-1", "1,2", "8", "j", strings.Repeat("a", 19), strings.Repeat("a", 20), strings.Repeat("😀", 20)}
}

func badNames() []string {
	return []string{"", " ", "=", "a b", "a=b", "\x01", "a\x01", "a\x0139=5", "\x00", "\x1f", "\x7f", "\xff", "a\xc3", "\xed\xa0\x80", "\ufffd", "a\ufffdb", strings.Repeat("a", 21), strings.Repeat("😀", 21), strings.Repeat("a", 1000)}
}

// want asks that a tell is right, or that it isn't.
func want(t *testing.T, x api.Tell, right bool) {
	t.Helper()
	if right {
		wantRight(t, x)
	} else {
		wantWrong(t, x)
	}
}

// P13.1: names where they are used, and nothing where they are not.
func TestRightNames(t *testing.T) {
	for _, g := range goods() {
		for _, n := range names() {
			for _, text := range goodNames() {
				x := g.tell
				*n.at(&x) = text
				want(t, x, n.used(x))
			}
			for _, text := range badNames() {
				x := g.tell
				*n.at(&x) = text
				want(t, x, text == "" && !n.used(x))
			}
		}
	}
}

// P13.1: numbers at their ends and beyond them, and nothing where they are not used.
func TestRightNumbers(t *testing.T) {
	values := []int{leastInt, leastInt + 1, -1 << 40, -1 << 32, -10, -2, -1, 0, 1, 8, 9, 10, 11, 256, 998, 999, 1000, 1001, 9999, 99998, 99999, 100000, 100001, 1 << 32, 1<<32 + 5, 1<<40 - 1, 1 << 40, 1<<40 + 1, 1 << 41, 1<<40 + 1<<32, 1 << 62, greatestInt - 1, greatestInt}
	for _, g := range goods() {
		for _, n := range numbers() {
			for _, value := range values {
				x := g.tell
				*n.at(&x) = value
				want(t, x, n.used(x) && value >= 0 && value <= n.high || !n.used(x) && value == 0)
			}
		}
	}
}

// P13.1: each status, each tag and each reason that there is.
func TestRightEach(t *testing.T) {
	for _, g := range goods() {
		for _, n := range numbers() {
			if !n.used(g.tell) || n.high > 99999 {
				continue
			}
			for value := -2; value <= n.high+2; value++ {
				x := g.tell
				*n.at(&x) = value
				want(t, x, value >= 0 && value <= n.high)
			}
		}
	}
}

// P13.1: of the fields that the kinds use all sets are tried: one that is set where it isn't used is enough, whatever the others are.
func TestRightSets(t *testing.T) {
	for kind := api.TellReport; kind <= api.TellOther; kind++ {
		for set := range 1 << 9 {
			x := api.Tell{Kind: kind}
			spare, lacks := false, false
			for i, n := range names() {
				if set>>i&1 > 0 {
					*n.at(&x) = "a"
				}
				spare = spare || set>>i&1 > 0 && !n.used(x)
				lacks = lacks || set>>i&1 == 0 && n.used(x)
			}
			for i, n := range numbers() {
				if set>>(i+2)&1 > 0 {
					*n.at(&x) = 1
					spare = spare || !n.used(x)
				}
			}
			want(t, x, !spare && !lacks)
		}
	}
}

// P13.1: two fields that are wrong don't make one that is right.
func TestRightTwo(t *testing.T) {
	for _, g := range goods() {
		for _, first := range numbers() {
			for _, second := range numbers() {
				for _, pair := range [][2]int{{-1, 1}, {leastInt, greatestInt}, {leastInt, leastInt}, {-1, -1}, {1 << 41, -1 << 41}} {
					x := g.tell
					*second.at(&x) = pair[1]
					*first.at(&x) = pair[0]
					wantWrong(t, x)
				}
			}
			for _, n := range names() {
				x := g.tell
				*first.at(&x) = -1
				*n.at(&x) = "a b"
				wantWrong(t, x)
			}
		}
	}
}
