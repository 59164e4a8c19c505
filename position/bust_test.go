package position_test

import (
	"testing"

	"spigot/api"
)

// P18.2: just what was can be taken back, whole or by parts, and then nothing is left.
func TestBustOfJustWhatWas(t *testing.T) {
	for _, side := range []int{api.Buy, api.Sell} {
		k := key{0, 0, side}
		x := newPair(t, 1, 1)
		x.fill(k, 10, 100, api.OK)
		x.bust(k, 10, 100, api.OK)
		wantTold(t, x.b, 0, 0, [5]int{})
		x.bust(k, 1, 1, api.ErrOver)
		x.fill(k, 10, 100, api.OK)
		x.bust(k, 4, 100, api.OK)
		x.bust(k, 5, 100, api.OK)
		x.bust(k, 2, 50, api.ErrOver)
		x.bust(k, 1, 101, api.ErrOver)
		x.bust(k, 1, 100, api.OK)
		wantTold(t, x.b, 0, 0, [5]int{})
	}
}

// P18.2: a quantity and a worth are each taken back of what there is, whatever single executions were.
func TestBustOfSums(t *testing.T) {
	k := key{0, 0, api.Buy}
	x := newPair(t, 1, 1)
	x.fill(k, 10, 3, api.OK)
	x.fill(k, 2, 35, api.OK)
	x.bust(k, 5, 20, api.OK)
	wantTold(t, x.b, 0, 0, [5]int{7, 0, 0, 0, 7})
	x.bust(k, 1, 1, api.ErrOver)
	x.fill(k, 1, 5, api.OK)
	x.bust(k, 5, 1, api.OK)
	wantTold(t, x.b, 0, 0, [5]int{3, 0, 0, 0, 3})
	x.fill(k, 1, 1000, api.OK)
	x.bust(k, 4, 10, api.OK)
	wantTold(t, x.b, 0, 0, [5]int{0, 960, 0, 0, 0})
	x.bust(k, 1, 1, api.ErrOver)
	x.fill(k, 1, 1, api.OK)
	x.bust(k, 1, 961, api.OK)
	wantTold(t, x.b, 0, 0, [5]int{})
}

// P18.2: more than there is, in quantity alone, in worth alone, or in both, is refused.
func TestBustOfMore(t *testing.T) {
	for _, side := range []int{api.Buy, api.Sell} {
		k := key{1, 2, side}
		x := newPair(t, 2, 3)
		x.fill(k, 10, 100, api.OK)
		for _, n := range [][2]int{{11, 1}, {11, 90}, {1, 1001}, {10, 101}, {2, 501}, {11, 100}, {11, 101}, {api.MaxQty, 1}, {1, api.MaxPrice}, {api.MaxQty, 1<<23 - 1}, {oneFactor, anotherFactor}} {
			x.bust(k, n[0], n[1], api.ErrOver)
			x.same()
		}
		x.bust(k, 1, 1000, api.OK)
		x.same()
	}
}

// P18.2: what qty · price has no room for is more than there ever was, also if the product is small once its high bits are lost.
func TestBustOfTooMuch(t *testing.T) {
	k := key{0, 0, api.Buy}
	x := newPair(t, 1, 1)
	x.fill(k, api.MaxQty, 1<<22, api.OK)
	x.fill(k, api.MaxQty, 1, api.OK)
	for _, n := range [][2]int{{1 << 40, 1 << 23}, {1 << 32, 1 << 31}, {1 << 32, 1 << 32}, {1<<32 + 1, 1 << 32}, {1<<32 + 1, 1<<32 + 1}, {1 << 40, 1<<24 + 1}, {1 << 40, 1 << 40}, {1<<40 - 1, 1<<40 - 1}, {oneFactor + 1, anotherFactor}} {
		x.bust(k, n[0], n[1], api.ErrOver)
		x.same()
	}
}

// P18.2: what was done on one side, of one account, of one symbol, can be taken back only there.
func TestBustElsewhere(t *testing.T) {
	for _, side := range []int{api.Buy, api.Sell} {
		for account := range 2 {
			for symbol := range 2 {
				x := newPair(t, 2, 2)
				x.fill(key{account, symbol, side}, 10, 100, api.OK)
				for _, k := range []key{{account, symbol, 3 - side}, {1 - account, symbol, side}, {account, 1 - symbol, side}, {1 - account, 1 - symbol, side}, {1 - account, 1 - symbol, 3 - side}} {
					x.bust(k, 10, 100, api.ErrOver)
					x.bust(k, 1, 1, api.ErrOver)
					x.same()
				}
				x.bust(key{account, symbol, side}, 10, 100, api.OK)
				x.same()
			}
		}
	}
}

// P18.2: of nothing nothing can be taken back.
func TestBustOfNothing(t *testing.T) {
	x := newPair(t, 2, 2)
	for _, side := range []int{api.Buy, api.Sell} {
		for _, n := range [][2]int{{1, 1}, {1, api.MaxPrice}, {api.MaxQty, 1}, {api.MaxQty, api.MaxPrice}} {
			x.bust(key{0, 0, side}, n[0], n[1], api.ErrOver)
			x.bust(key{1, 1, side}, n[0], n[1], api.ErrOver)
			x.same()
		}
	}
}

// P18.2: busts at the ends of what can be.
func TestBustAtTheEnds(t *testing.T) {
	for _, side := range []int{api.Buy, api.Sell} {
		k := key{0, 0, side}
		x := newPair(t, 1, 1)
		x.fill(k, oneFactor, anotherFactor, api.OK)
		x.bust(k, oneFactor+1, 1, api.ErrOver)
		x.bust(k, anotherFactor, oneFactor, api.ErrOver)
		x.bust(k, oneFactor, anotherFactor, api.OK)
		x.same()
		x.fill(k, anotherFactor, oneFactor, api.OK)
		x.bust(k, oneFactor, anotherFactor, api.OK)
		wantTold(t, x.b, 0, 0, map[int][5]int{
			api.Buy:  {anotherFactor - oneFactor, 0, 0, 0, anotherFactor - oneFactor},
			api.Sell: {0, 0, anotherFactor - oneFactor, 0, oneFactor - anotherFactor},
		}[side])
	}
}
