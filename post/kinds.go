package post

import (
	"spigot/api"
)

// What the field 35 says of replies: all but the refused ones are reports, which the field 150 tells apart.
const (
	wordReport  = "8"
	wordRefused = "9"
)

// orderWords are what the field 35 says, order by order; of what is no order it is nothing.
var orderWords = [...]string{
	api.OrderNew:     "D",
	api.OrderCancel:  "F",
	api.OrderReplace: "G",
}

// reportWords are what the field 150 says, report by report; of what is no report it is nothing.
var reportWords = [...]string{
	api.ReplyNew:      "0",
	api.ReplyCanceled: "4",
	api.ReplyReplaced: "5",
	api.ReplyRejected: "8",
	api.ReplyTrade:    "F",
	api.ReplyBust:     "H",
}

// isOrder says whether a number is an order's kind.
func isOrder(kind int) bool {
	return api.OrderNew <= kind && kind <= api.OrderReplace
}

// isReply says whether a number is a reply's kind.
func isReply(kind int) bool {
	return api.ReplyNew <= kind && kind <= api.ReplyRefused
}

// orderOf is the kind of order that the field 35 says, or 0, if it is none.
func orderOf(word string) int {
	for kind, one := range orderWords {
		if one == word {
			return kind
		}
	}
	return 0
}

// reportOf is the kind of report that the field 150 says, or 0, if it is none.
func reportOf(word string) int {
	for kind, one := range reportWords {
		if one == word {
			return kind
		}
	}
	return 0
}

// replyWord is what the field 35 says of a reply.
func replyWord(kind int) string {
	if kind == api.ReplyRefused {
		return wordRefused
	}
	return wordReport
}
