package ask

import (
	"strconv"
	"strings"

	"spigot/api"
)

// The tags of an ask's fields.
const (
	tagAccount = 1
	tagID      = 11
	tagKind    = 35
	tagQty     = 38
	tagTarget  = 41
	tagPrice   = 44
	tagSide    = 54
	tagSymbol  = 55
	tagAlgo    = 5001
	tagStart   = 5002
	tagEnd     = 5003
	tagRate    = 5004
	tagShow    = 5005
	tagCurve   = 5006
)

// letters are what the field 35 says, kind by kind; none is 0.
var letters = [...]string{
	api.AskNew:    "D",
	api.AskCancel: "F",
	api.AskAmend:  "G",
	api.AskPause:  "UP",
	api.AskResume: "UR",
}

// fields are those of an ask that is right, in the body's order.
func fields(a api.Ask) []api.Field {
	var list []api.Field
	put := func(number int, value any) {
		list = append(list, api.Field{Tag: number, Value: text(value)})
	}
	put(tagKind, letters[a.Kind])
	put(tagID, a.ID)
	switch a.Kind {
	case api.AskNew:
		putOrder(put, a)
	case api.AskAmend:
		put(tagTarget, a.Target)
		put(tagQty, a.Qty)
		put(tagPrice, a.Price)
		put(tagEnd, a.End)
	default:
		put(tagTarget, a.Target)
	}
	return list
}

// putOrder puts what new orders have behind their name.
func putOrder(put func(number int, value any), a api.Ask) {
	put(tagAccount, a.Account)
	put(tagSymbol, a.Symbol)
	put(tagSide, a.Side)
	put(tagQty, a.Qty)
	put(tagPrice, a.Price)
	put(tagAlgo, a.Algo)
	put(tagStart, a.Start)
	put(tagEnd, a.End)
	switch a.Algo {
	case api.Vwap:
		put(tagCurve, a.Curve)
	case api.Flow:
		put(tagRate, a.Rate)
	case api.Berg:
		put(tagShow, a.Show)
	}
}

// text is a field's value, whatever an ask has it as.
func text(value any) string {
	switch v := value.(type) {
	case string:
		return v
	case int:
		return strconv.Itoa(v)
	case []int:
		parts := make([]string, 0, len(v))
		for _, n := range v {
			parts = append(parts, strconv.Itoa(n))
		}
		return strings.Join(parts, ",")
	}
	return ""
}
