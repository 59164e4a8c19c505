package ask

import (
	"spigot/api"
	"spigot/body"
)

// kindOf is the kind that the field 35 says, or 0, if it is none.
func kindOf(said string) int {
	for kind, one := range letters {
		if one == said {
			return kind
		}
	}
	return 0
}

// read asks a form for an ask of a kind. What isn't right the form keeps, for its Done to tell.
func read(f *body.Form, kind int) api.Ask {
	a := api.Ask{Kind: kind, ID: f.Name(tagID)}
	switch kind {
	case api.AskNew:
		readOrder(f, &a)
	case api.AskAmend:
		a.Target = f.Name(tagTarget)
		readWorth(f, &a)
		a.End = f.Int(tagEnd, 0, api.MaxTime)
	default:
		a.Target = f.Name(tagTarget)
	}
	return a
}

// readOrder asks for what new orders have behind their name.
func readOrder(f *body.Form, a *api.Ask) {
	a.Account = f.Name(tagAccount)
	a.Symbol = f.Name(tagSymbol)
	a.Side = f.Int(tagSide, api.Buy, api.Sell)
	readWorth(f, a)
	a.Algo = f.Int(tagAlgo, api.Twap, api.Berg)
	a.Start = f.Int(tagStart, 0, api.MaxTime)
	a.End = f.Int(tagEnd, 0, api.MaxTime)
	switch a.Algo {
	case api.Vwap:
		a.Curve = f.Ints(tagCurve, api.MaxBuckets, 0, api.MaxWeight)
	case api.Flow:
		a.Rate = f.Int(tagRate, 1, api.MaxRate)
	case api.Berg:
		a.Show = f.Int(tagShow, 1, api.MaxQty)
	}
}

// readWorth asks for a quantity and a price, which stand side by side wherever they are.
func readWorth(f *body.Form, a *api.Ask) {
	a.Qty = f.Int(tagQty, 1, api.MaxQty)
	a.Price = f.Int(tagPrice, 1, api.MaxPrice)
}
