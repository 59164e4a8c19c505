package post_test

import (
	"slices"
	"strings"
	"testing"

	"spigot/api"
	"spigot/roster"
)

// P14.2: 150 tells reports apart, each word its kind, whichever kinds the others are.
func TestReportKinds(t *testing.T) {
	r := replies()
	head := []string{"35=8", "34=5", "11=c", "17=e"}
	for word, kind := range map[string]int{"0": api.ReplyNew, "4": api.ReplyCanceled, "5": api.ReplyReplaced, "8": api.ReplyRejected} {
		asked := api.Reply{Kind: kind, Seq: 5, ID: "c", Exec: "e"}
		r.wantThing(t, text(append(head[:4:4], "150="+word)...), asked)
		r.wantRight(t, asked)
	}
	r.wantThing(t, text(append(head[:4:4], "150=F", "32=6", "31=7")...), api.Reply{Kind: api.ReplyTrade, Seq: 5, ID: "c", Exec: "e", Qty: 6, Price: 7})
	r.wantThing(t, text(append(head[:4:4], "150=H", "19=f")...), api.Reply{Kind: api.ReplyBust, Seq: 5, ID: "c", Exec: "e", Ref: "f"})
	r.wantThing(t, text("35=9", "34=5", "11=c"), api.Reply{Kind: api.ReplyRefused, Seq: 5, ID: "c"})
}

// P14.2: of all values of one or two bytes just six are reports; what is no name is ErrName, and what is one is ErrType, both ahead of all that is behind 150.
func TestReportType(t *testing.T) {
	r := replies()
	for _, value := range shortTexts() {
		if slices.Contains([]string{"0", "4", "5", "8", "F", "H"}, value) {
			continue
		}
		asked := api.ErrType
		if !roster.Valid(value) {
			asked = api.ErrName
		}
		for _, behind := range [][]string{nil, {"32=1", "31=2"}, {"19=f"}, {"32=0"}, {"32=x", "31=0"}, {"19=a b"}, {"99=x"}, {"38=1", "44=1"}} {
			fields := append([]string{"35=8", "34=5", "11=c", "17=e", form(150, value)}, behind...)
			r.wantRefused(t, text(fields...), 150, asked)
			r.wantRefused(t, text(turned(fields)...), 150, asked)
		}
	}
}

// P14.2: an error ahead of 150 is told, whatever 150 says; and 150's own is told ahead of each one behind it.
func TestReportBetween(t *testing.T) {
	r := replies()
	reports := []string{"", "150=Z", "150=a b", "150=F", "150=0", "150=H", "150=" + strings.Repeat("F", 21)}
	for at, tag := range map[int]int{1: 34, 2: 11, 3: 17} {
		for _, report := range reports {
			for _, behind := range [][]string{nil, {"32=1", "31=2"}, {"32=0"}, {"19=f"}, {"99=x"}} {
				fields := []string{"35=8", "34=5", "11=c", "17=e"}
				if report != "" {
					fields = append(fields, report)
				}
				fields = append(fields, behind...)
				r.wantRefused(t, text(without(fields, at)...), tag, api.ErrMissing)
				for _, one := range bads(tag) {
					spoilt := with(fields, tag, one.value)
					r.wantRefused(t, text(spoilt...), tag, one.e)
					r.wantRefused(t, text(turned(spoilt)...), tag, one.e)
				}
			}
		}
	}
	for report, asked := range map[string]api.Errno{"": api.ErrMissing, "150=Z": api.ErrType, "150=f": api.ErrType, "150=a b": api.ErrName} {
		for _, behind := range [][]string{nil, {"32=1", "31=2"}, {"32=0", "31=2"}, {"31=2"}, {"19=f"}, {"19=a b"}, {"99=x"}} {
			fields := append([]string{"35=8", "34=5", "11=c", "17=e"}, behind...)
			if report != "" {
				fields = put(fields, 4, report)
			}
			r.wantRefused(t, text(fields...), 150, asked)
			r.wantRefused(t, text(turned(fields)...), 150, asked)
		}
	}
}

// P14.2: a report with what another one has: its own lacks first; where its own is there the other's is too much.
func TestReportOthers(t *testing.T) {
	r := replies()
	head := []string{"35=8", "34=5", "11=c", "17=e"}
	trade, bust := []string{"32=6", "31=7"}, []string{"19=f"}
	for _, one := range []struct {
		word   string
		behind []string
		tag    int
		asked  api.Errno
	}{
		{"F", nil, 32, api.ErrMissing},
		{"F", bust, 32, api.ErrMissing},
		{"F", trade[:1], 31, api.ErrMissing},
		{"F", trade[1:], 32, api.ErrMissing},
		{"F", append(bust[:1:1], trade...), 19, api.ErrSpare},
		{"F", append(trade[:2:2], bust...), 19, api.ErrSpare},
		{"F", []string{"38=6", "44=7"}, 32, api.ErrMissing},
		{"F", []string{"38=6", "44=7", "32=6", "31=7"}, 38, api.ErrSpare},
		{"H", nil, 19, api.ErrMissing},
		{"H", trade, 19, api.ErrMissing},
		{"H", append(trade[:2:2], bust...), 32, api.ErrSpare},
		{"H", append(bust[:1:1], trade[1]), 31, api.ErrSpare},
		{"0", trade, 32, api.ErrSpare},
		{"0", bust, 19, api.ErrSpare},
		{"4", trade[1:], 31, api.ErrSpare},
		{"5", bust, 19, api.ErrSpare},
		{"8", trade, 32, api.ErrSpare},
	} {
		fields := append(append(head[:4:4], "150="+one.word), one.behind...)
		r.wantRefused(t, text(fields...), one.tag, one.asked)
	}
}

// P14.2: where 35 is 9 there is no 150: any is too much, behind all errors of the fields that there are.
func TestReportOfRefused(t *testing.T) {
	r := replies()
	for _, value := range []string{"0", "4", "5", "8", "F", "H", "9", "Z", "a b"} {
		for at := 1; at <= 3; at++ {
			fields := put([]string{"35=9", "34=5", "11=c"}, at, form(150, value))
			r.wantRefused(t, text(fields...), 150, api.ErrSpare)
			r.wantRefused(t, text(with(fields, 34, "0")...), 34, api.ErrArg)
			r.wantRefused(t, text(with(fields, 11, "a b")...), 11, api.ErrName)
			r.wantRefused(t, text(append(fields, "17=e")...), 150, api.ErrSpare)
			r.wantRefused(t, text(put(fields, 1, "17=e")...), 17, api.ErrSpare)
		}
		r.wantRefused(t, text("35=9", form(150, value)), 34, api.ErrMissing)
		r.wantRefused(t, text("35=9", "34=1", form(150, value)), 11, api.ErrMissing)
	}
	// And orders have none either.
	for _, g := range orders().goods {
		for _, value := range []string{"0", "F", "Z", "a b"} {
			orders().wantRefused(t, text(append(slices.Clone(g.fields), form(150, value))...), 150, api.ErrSpare)
		}
	}
}
