package post_test

import (
	"slices"
	"strings"
	"testing"
)

// goodNames and badNames are texts at the edges of names.
func goodNames() []string {
	return []string{"a", "!", "~", "é", "1", "0", "-1", "1,2", "8", "F", "D", strings.Repeat("a", 19), strings.Repeat("a", 20), strings.Repeat("😀", 20)}
}

func badNames() []string {
	return []string{"", " ", "=", "a b", "a=b", "\x01", "a\x01", "a\x0138=5", "\x00", "\x1f", "\x7f", "\xff", "a\xc3", "\xed\xa0\x80", "\ufffd", "a\ufffdb", strings.Repeat("a", 21), strings.Repeat("😀", 21), strings.Repeat("a", 1000)}
}

// P14.1: a kind that is none is never right, whichever kind the rest is of, nor if there is no rest.
func TestNoKind(t *testing.T) {
	noKind(t, orders())
	noKind(t, replies())
}

func noKind[T comparable](t *testing.T, f face[T]) {
	for _, g := range append(f.goods, good[T]{}) {
		kind := *f.kind(&g.thing)
		for _, none := range []int{0, -1, -2, -3, -7, f.kinds + 1, f.kinds + 2, 10, '8', 'D', 'F', 1<<8 + 1, 1<<8 + kind, 1<<16 + kind, 1<<32 + 1, 1<<32 + kind, leastInt, leastInt + 1, leastInt + kind, greatestInt} {
			x := g.thing
			*f.kind(&x) = none
			f.wantWrong(t, x)
		}
	}
}

// P14.1: each kind that stands for another one is right just where both have the same fields.
func TestOtherKind(t *testing.T) {
	otherKind(t, orders())
	otherKind(t, replies())
	r := replies()
	for _, g := range r.goods[:4] {
		for kind := 1; kind <= 4; kind++ {
			x := g.thing
			x.Kind = kind
			r.wantRight(t, x)
			r.wantBody(t, x, with(g.fields, 150, []string{"", "0", "4", "5", "8"}[kind]))
		}
	}
}

func otherKind[T comparable](t *testing.T, f face[T]) {
	for _, g := range f.goods {
		for kind := 1; kind <= f.kinds; kind++ {
			x := g.thing
			own := f.plan(*f.kind(&x))
			*f.kind(&x) = kind
			f.want(t, x, slices.Equal(own, f.plan(kind)))
		}
	}
}

// P14.1: names where they are used, and nothing where they are not.
func TestRightNames(t *testing.T) {
	rightNames(t, orders())
	rightNames(t, replies())
}

func rightNames[T comparable](t *testing.T, f face[T]) {
	for _, g := range f.goods {
		for _, n := range f.names {
			for _, text := range goodNames() {
				x := g.thing
				*n.at(&x) = text
				f.want(t, x, f.used(x, n.tag))
			}
			for _, text := range badNames() {
				x := g.thing
				*n.at(&x) = text
				f.want(t, x, text == "" && !f.used(x, n.tag))
			}
		}
	}
}

// P14.1: numbers at their ends and beyond them, sides that are none among them, and nothing where they are not used.
func TestRightNumbers(t *testing.T) {
	rightNumbers(t, orders())
	rightNumbers(t, replies())
}

func rightNumbers[T comparable](t *testing.T, f face[T]) {
	values := []int{leastInt, leastInt + 1, -1 << 40, -1 << 32, -10, -2, -1, 0, 1, 2, 3, 4, 9, 10, 256, 257, 258, 1 << 32, 1<<32 + 1, 1<<32 + 2, 1<<40 - 1, 1 << 40, 1<<40 + 1, 1<<40 + 2, 1 << 41, 1<<40 + 1<<32, 1 << 62, greatestInt - 1, greatestInt}
	for _, g := range f.goods {
		for _, n := range f.numbers {
			for _, value := range values {
				x := g.thing
				*n.at(&x) = value
				within := value >= 1 && value <= highOf(n.tag)
				f.want(t, x, f.used(x, n.tag) && within || !f.used(x, n.tag) && value == 0)
			}
		}
	}
}

// P14.1: of the fields that the kinds use all sets are tried: one that lacks, or is set where it isn't used, is enough, whatever the others are.
func TestRightSets(t *testing.T) {
	rightSets(t, orders())
	rightSets(t, replies())
}

func rightSets[T comparable](t *testing.T, f face[T]) {
	for kind := 1; kind <= f.kinds; kind++ {
		for set := range 1 << (len(f.names) + len(f.numbers)) {
			var x T
			*f.kind(&x) = kind
			right := true
			for i, n := range f.names {
				if set>>i&1 > 0 {
					*n.at(&x) = "a"
				}
				right = right && f.used(x, n.tag) == (set>>i&1 > 0)
			}
			for i, n := range f.numbers {
				bit := set >> (i + len(f.names)) & 1
				*n.at(&x) = bit
				right = right && f.used(x, n.tag) == (bit > 0)
			}
			f.want(t, x, right)
		}
	}
}

// P14.1: two fields that are wrong don't make one that is right.
func TestRightTwo(t *testing.T) {
	rightTwo(t, orders())
	rightTwo(t, replies())
}

func rightTwo[T comparable](t *testing.T, f face[T]) {
	for _, g := range f.goods {
		for _, first := range f.numbers {
			for _, second := range f.numbers {
				for _, pair := range [][2]int{{-1, 1}, {leastInt, greatestInt}, {leastInt, leastInt}, {-1, -1}, {1 << 41, -1 << 41}} {
					x := g.thing
					*second.at(&x) = pair[1]
					*first.at(&x) = pair[0]
					f.wantWrong(t, x)
				}
			}
			for _, n := range f.names {
				x := g.thing
				*first.at(&x) = -1
				*n.at(&x) = "a b"
				f.wantWrong(t, x)
			}
		}
	}
}
