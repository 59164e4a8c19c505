package berg_test

import (
	"testing"

	"spigot/api"
	"spigot/berg"
)

// P26.2: in numbers worked out by hand.
func TestSlices(t *testing.T) {
	for _, x := range []struct{ qty, show, want int }{
		// A quantity that the show divides evenly, one below and one above such.
		{90, 30, 3}, {89, 30, 3}, {91, 30, 4}, {100, 30, 4}, {120, 30, 4}, {119, 30, 4}, {121, 30, 5}, {30, 30, 1}, {29, 30, 1}, {31, 30, 2}, {60, 30, 2}, {61, 30, 3}, {59, 30, 2},
		{100, 7, 15}, {98, 7, 14}, {97, 7, 14}, {99, 7, 15}, {105, 7, 15}, {106, 7, 16}, {4, 2, 2}, {5, 2, 3}, {3, 2, 2}, {2, 2, 1},
		// One at a time; nothing; 1.
		{0, 1, 0}, {1, 1, 1}, {2, 1, 2}, {100, 1, 100}, {0, 30, 0}, {0, 1 << 40, 0}, {1, 30, 1}, {1, 2, 1}, {1, 1 << 40, 1},
		// More at a time than there is.
		{100, 99, 2}, {100, 100, 1}, {100, 101, 1}, {100, 1 << 40, 1}, {5, 1 << 40, 1},
		// The greatest.
		{1 << 40, 1, 1 << 40}, {1<<40 - 1, 1, 1<<40 - 1}, {1 << 40, 2, 1 << 39}, {1<<40 - 1, 2, 1 << 39}, {1<<40 - 2, 2, 1<<39 - 1}, {1 << 40, 3, 366503875926}, {1<<40 - 1, 3, 366503875925}, {1<<40 - 2, 3, 366503875925},
		{1 << 40, 1 << 20, 1 << 20}, {1<<40 - 1, 1 << 20, 1 << 20}, {1<<40 - 1<<20, 1 << 20, 1<<20 - 1}, {1<<40 - 1<<20 + 1, 1 << 20, 1 << 20}, {1 << 40, 1 << 39, 2}, {1 << 40, 1<<39 - 1, 3}, {1 << 40, 1<<39 + 1, 2},
		{1 << 40, 1<<40 - 1, 2}, {1 << 40, 1 << 40, 1}, {1<<40 - 1, 1 << 40, 1}, {1<<40 - 1, 1<<40 - 1, 1}, {1<<40 - 1, 1<<40 - 2, 2},
	} {
		wantSlices(t, x.qty, x.show, x.want, api.OK)
	}
}

// P26.2: each is refused on its own, whatever the other one is, as are both at once.
func TestSlicesRefused(t *testing.T) {
	for _, qty := range append(outside(0, mostQty), -30, 1<<62) {
		for _, show := range append(shows(), 30) {
			wantSlices(t, qty, show, 0, api.ErrArg)
		}
		for _, show := range append(outside(1, mostQty), 0) {
			wantSlices(t, qty, show, 0, api.ErrArg)
		}
	}
	for _, show := range append(outside(1, mostQty), -30, 0, 1<<62) {
		for _, qty := range append(quantities(), 90) {
			wantSlices(t, qty, show, 0, api.ErrArg)
		}
	}
}

// P26.2: the ends of what may be, and one beyond, with each other.
func TestSlicesAtTheEnds(t *testing.T) {
	for _, qty := range append(quantities(), -1, mostQty+1, leastInt, greatestInt) {
		for _, show := range append(shows(), -1, 0, mostQty+1, leastInt, greatestInt) {
			want, e := plainSlices(qty, show)
			wantSlices(t, qty, show, want, e)
		}
	}
}

// P26.2: as many of a show as there are, one below it and one above it.
func TestSlicesAboutEvenOnes(t *testing.T) {
	for _, show := range shows()[1:] {
		for _, many := range []int{1, 2, 3, 10, 999, mostQty / show} {
			if many > mostQty/show {
				continue
			}
			wantSlices(t, many*show, show, many, api.OK)
			wantSlices(t, many*show-1, show, many, api.OK)
			wantSlices(t, (many-1)*show+1, show, many, api.OK)
			if many*show < mostQty {
				wantSlices(t, many*show+1, show, many+1, api.OK)
			}
		}
	}
}

// P26.2: all that there is in small numbers, wrong ones among them, gone through slice by slice.
func TestSlicesOfSmallNumbers(t *testing.T) {
	for qty := -2; qty <= 130; qty++ {
		for show := -2; show <= 133; show++ {
			if qty < 0 || show < 1 {
				wantSlices(t, qty, show, 0, api.ErrArg)
				continue
			}
			wantSlices(t, qty, show, counted(qty, show), api.OK)
		}
	}
}

// P26.1 to P26.3: executing all that is shown, again and again, comes to the whole in just as many slices as are told.
func TestExecutedSliceBySlice(t *testing.T) {
	for qty := range 130 {
		for show := 1; show <= 133; show++ {
			executeAll(t, qty, show)
		}
	}
	for _, qty := range quantities() {
		for _, show := range shows() {
			if qty/show <= 100000 {
				executeAll(t, qty, show)
			}
		}
	}
}

// executeAll executes all that is shown till nothing is shown, and looks at each slice; it tells how many there were.
func executeAll(t *testing.T, qty, show int) int {
	t.Helper()
	filled, many := 0, 0
	for {
		n, e := berg.Shown(qty, show, filled)
		if want := min(show, qty-filled); n != want || e != api.OK {
			t.Fatalf("Shown(%d, %d, %d): %d, %d; the document asks for %d", qty, show, filled, n, e, want)
		}
		wantTarget(t, qty, show, filled, filled+n, api.OK)
		if n == 0 {
			break
		}
		filled += n
		many++
	}
	if filled != qty {
		t.Fatalf("nothing of %d is shown any more, though only %d are executed", qty, filled)
	}
	wantSlices(t, qty, show, many, api.OK)
	return many
}
