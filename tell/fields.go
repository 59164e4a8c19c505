package tell

import (
	"spigot/api"
)

// The kinds, in api's order: one behind the other, so that they are also places of a table.
const (
	report = api.TellReport + iota
	cancel
	reject
	other
)

// The tags of a tell's fields. A reason has one of its own where bytes, or a kind, are refused.
const (
	tagID           = 11
	tagCum          = 14
	tagExec         = 17
	tagPrice        = 31
	tagLast         = 32
	tagKind         = 35
	tagStatus       = 39
	tagReason       = 103
	tagLeaves       = 151
	tagTag          = 371
	tagRejectReason = 373
	tagOtherReason  = 380
)

// The greatest ones that api has no limit for.
const (
	maxStatus = 9
	maxReason = 999
)

// letters are what the field 35 says, kind by kind; of what is no kind it is nothing.
var letters = [...]string{
	report: "8",
	cancel: "9",
	reject: "3",
	other:  "j",
}

// isKind says whether a number is a kind.
func isKind(kind int) bool {
	return report <= kind && kind <= other
}

// kindOf is the kind that the field 35 says, or 0, if it is none.
func kindOf(said string) int {
	for kind, one := range letters {
		if one == said {
			return kind
		}
	}
	return 0
}

// field is a tag, and the place in a tell that its value has: of a name, or of a number with its ends.
type field struct {
	tag       int
	name      *string
	number    *int
	low, high int
}

// fieldsOf are the fields that a tell's kind has, in the body's order.
func fieldsOf(t *api.Tell) []field {
	switch t.Kind {
	case report:
		return []field{
			{tag: tagID, name: &t.ID},
			{tag: tagExec, name: &t.Exec},
			{tag: tagStatus, number: &t.Status, low: 0, high: maxStatus},
			{tag: tagLast, number: &t.Last, low: 0, high: api.MaxQty},
			{tag: tagPrice, number: &t.Price, low: 0, high: api.MaxPrice},
			{tag: tagCum, number: &t.Cum, low: 0, high: api.MaxQty},
			{tag: tagLeaves, number: &t.Leaves, low: 0, high: api.MaxQty},
			{tag: tagReason, number: &t.Reason, low: 0, high: maxReason},
		}
	case cancel:
		return []field{
			{tag: tagID, name: &t.ID},
			{tag: tagStatus, number: &t.Status, low: 0, high: maxStatus},
			{tag: tagReason, number: &t.Reason, low: 0, high: maxReason},
		}
	case reject:
		return refusal(t, tagRejectReason)
	case other:
		return refusal(t, tagOtherReason)
	}
	return nil
}

// refusal is what both kinds have that refuse bytes: their reasons have different tags.
func refusal(t *api.Tell, tagOfReason int) []field {
	return []field{
		{tag: tagTag, number: &t.Tag, low: 0, high: api.MaxTag},
		{tag: tagOfReason, number: &t.Reason, low: 0, high: maxReason},
	}
}

// eachField hands each place of a tell that its kind uses to one of two functions. It is the one loop for all ways, so that none of them can differ in which fields there are.
func eachField(t *api.Tell, name func(tag int, place *string), number func(tag int, place *int, low, high int)) {
	for _, one := range fieldsOf(t) {
		if one.name != nil {
			name(one.tag, one.name)
		} else {
			number(one.tag, one.number, one.low, one.high)
		}
	}
}
