package router

import (
	"spigot/api"
	"spigot/grain"
)

// share is an offer that may get something: by which step, and how much it got by now.
type share struct {
	place, shown int
	step, got    int
}

// shares are those of the offers that may get something.
func shares(lot int, ranked []Offer) []share {
	var all []share
	for _, o := range ranked {
		step, e := Step(lot, o.Lot)
		if o.Healthy && e == api.OK && step <= api.MaxQty {
			all = append(all, share{place: o.Place, shown: o.Shown, step: step})
		}
	}
	return all
}

// round gives to each in turn what it may get on its step, up to what most tells of it, and answers what is left then.
func round(all []share, left int, most func(share) int) int {
	for i := range all {
		s := &all[i]
		// It can't be refused: a step is at least 1, and nothing here is below 0.
		n, _ := grain.Floor(min(most(*s), left), s.step)
		s.got += n
		left -= n
	}
	return left
}

// pieces are what those got that got something.
func pieces(all []share) []Piece {
	var got []Piece
	for _, s := range all {
		if s.got > 0 {
			got = append(got, Piece{Place: s.place, Qty: s.got})
		}
	}
	return got
}
