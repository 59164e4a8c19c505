package post

import (
	"strconv"

	"spigot/api"
	"spigot/body"
	"spigot/roster"
)

// The tags of what orders and replies have. A quantity and a price have others of their own where they are executed.
const (
	tagID        = 11
	tagExec      = 17
	tagRef       = 19
	tagLastPrice = 31
	tagLastQty   = 32
	tagSeq       = 34
	tagKind      = 35
	tagQty       = 38
	tagPrice     = 44
	tagSide      = 54
	tagSymbol    = 55
	tagReport    = 150
)

// visit is what is done at each place of a thing that holds a field: a name, a number with its ends, or the kind of a report.
type visit struct {
	name   func(number int, place *string)
	number func(number int, place *int, low, high int)
	report func(number int, kind *int)
}

// throughOrder goes through the fields that an order's kind has, in the body's order.
func throughOrder(o *api.Order, do visit) {
	do.number(tagSeq, &o.Seq, 1, api.MaxTime)
	do.name(tagID, &o.ID)
	if o.Kind == api.OrderNew {
		do.name(tagSymbol, &o.Symbol)
		do.number(tagSide, &o.Side, api.Buy, api.Sell)
	}
	if o.Kind == api.OrderNew || o.Kind == api.OrderReplace {
		do.number(tagQty, &o.Qty, 1, api.MaxQty)
		do.number(tagPrice, &o.Price, 1, api.MaxPrice)
	}
}

// throughReply goes through the fields that a reply's kind has, in the body's order. Which report it is may be open till its field is met: that is looked at only behind it.
func throughReply(r *api.Reply, do visit) {
	do.number(tagSeq, &r.Seq, 1, api.MaxTime)
	do.name(tagID, &r.ID)
	if r.Kind == api.ReplyRefused {
		return
	}
	do.name(tagExec, &r.Exec)
	do.report(tagReport, &r.Kind)
	switch r.Kind {
	case api.ReplyTrade:
		do.number(tagLastQty, &r.Qty, 1, api.MaxQty)
		do.number(tagLastPrice, &r.Price, 1, api.MaxPrice)
	case api.ReplyBust:
		do.name(tagRef, &r.Ref)
	}
}

// right says whether all is right that a thing's kind has, and nothing else is set: bare is what has the kind alone.
func right[T comparable](thing, bare T, through func(thing *T, do visit)) bool {
	good := true
	through(&thing, visit{
		name: func(_ int, place *string) {
			good = good && roster.Valid(*place)
			*place = ""
		},
		number: func(_ int, place *int, low, high int) {
			good = good && low <= *place && *place <= high
			*place = 0
		},
		report: func(int, *int) {},
	})
	// What the kind has is emptied by now (in this copy): whatever is left is set where nothing may be.
	return good && thing == bare
}

// fields are what a thing that is right is made: the word of its kind, and what there is to go through.
func fields[T any](word string, thing T, through func(thing *T, do visit)) []api.Field {
	list := []api.Field{{Tag: tagKind, Value: word}}
	put := func(number int, value string) {
		list = append(list, api.Field{Tag: number, Value: value})
	}
	through(&thing, visit{
		name:   func(number int, place *string) { put(number, *place) },
		number: func(number int, place *int, _, _ int) { put(number, strconv.Itoa(*place)) },
		report: func(number int, kind *int) { put(number, reportWords[*kind]) },
	})
	return list
}

// decode is the thing of a body: begin is handed the word of its kind, and says what there is to go through, or that there is no such kind.
func decode[T any](s string, begin func(word string) (T, bool), through func(thing *T, do visit)) (thing T, at int, e api.Errno) {
	var nothing T
	f, e := body.Read(s)
	if e != api.OK {
		return nothing, 0, e
	}
	thing, known := begin(f.Kind())
	if !known {
		return nothing, tagKind, api.ErrType
	}
	if at, e = read(f, &thing, through); e != api.OK {
		return nothing, at, e
	}
	return thing, 0, api.OK
}

// read asks a form for all that there is to go through, and is the tag and the error of what isn't right.
func read[T any](f *body.Form, thing *T, through func(thing *T, do visit)) (at int, e api.Errno) {
	through(thing, visit{
		name:   func(number int, place *string) { *place = f.Name(number) },
		number: func(number int, place *int, low, high int) { *place = f.Int(number, low, high) },
		report: func(number int, kind *int) {
			said := f.Name(number)
			*kind = reportOf(said)
			// Where nothing is said the form has an error, now or earlier, that its Done tells.
			if said != "" && !isReply(*kind) {
				at, e = number, api.ErrType
			}
		},
	})
	if e != api.OK {
		return at, e
	}
	return f.Done()
}
