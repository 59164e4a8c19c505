package matrix_test

import (
	"math"
	"strings"
	"testing"

	"spigot/api"
	"spigot/matrix"
)

const (
	leastInt    = math.MinInt
	greatestInt = math.MaxInt
)

// chapter is the chapter's table, as it stands there.
const chapter = `
| | EAck | ECanceled | EReplaced | ERejected | ETrade | EFill | EBust | ERefused | ECancel | EReplace |
|---|---|---|---|---|---|---|---|---|---|---|
| SPending | SNew | SCanceled | - | SRejected | SPartial | SFilled | same | - | SCanceling | - |
| SNew | - | SCanceled | - | - | SPartial | SFilled | same | - | SCanceling | SReplacing |
| SPartial | same | SCanceled | - | - | same | SFilled | back | - | SCanceling | SReplacing |
| SCanceling | same | SCanceled | - | SRejected | same | SFilled | same | back | - | - |
| SReplacing | - | SCanceled | back | - | same | SFilled | same | back | - | - |
| SFilled | - | - | - | - | - | - | same | - | - | - |
| SCanceled | - | - | - | - | - | - | same | - | - | - |
| SRejected | - | - | - | - | - | - | - | - | - | - |
`

// stateNames are the states, as the chapter's table names them.
func stateNames() map[string]int {
	return map[string]int{
		"SPending": api.SPending, "SNew": api.SNew, "SPartial": api.SPartial, "SCanceling": api.SCanceling,
		"SReplacing": api.SReplacing, "SFilled": api.SFilled, "SCanceled": api.SCanceled, "SRejected": api.SRejected,
	}
}

// eventNames are the events, as the chapter's table names them.
func eventNames() map[string]int {
	return map[string]int{
		"EAck": api.EAck, "ECanceled": api.ECanceled, "EReplaced": api.EReplaced, "ERejected": api.ERejected, "ETrade": api.ETrade,
		"EFill": api.EFill, "EBust": api.EBust, "ERefused": api.ERefused, "ECancel": api.ECancel, "EReplace": api.EReplace,
	}
}

func openStates() []int {
	return []int{api.SPending, api.SNew, api.SPartial, api.SCanceling, api.SReplacing}
}

func doneStates() []int {
	return []int{api.SFilled, api.SCanceled, api.SRejected}
}

func states() []int {
	return append(openStates(), doneStates()...)
}

func events() []int {
	return []int{api.EAck, api.ECanceled, api.EReplaced, api.ERejected, api.ETrade, api.EFill, api.EBust, api.ERefused, api.ECancel, api.EReplace}
}

// cums are amounts that may be executed: nothing, one, more, and as much as an int holds.
func cums() []int {
	return []int{0, 1, 2, 3, 10, 1 << 31, 1 << 32, api.MaxQty, api.MaxQty + 1, greatestInt - 1, greatestInt}
}

// noStates are below the first state and above the last one; some are states in their lower bits.
func noStates() []int {
	return []int{0, -1, -2, -api.SPending, -api.SRejected, api.SPending - 1, api.SRejected + 1, 10, 11, 64, 1<<8 + 1, 1<<16 + 2, 1<<32 + 1, 1<<32 + 6, leastInt, leastInt + 1, leastInt + 6, greatestInt - 1, greatestInt}
}

// noEvents are below the first event and above the last one; some are events in their lower bits.
func noEvents() []int {
	return []int{0, -1, -2, -api.EAck, -api.EReplace, api.EAck - 1, api.EReplace + 1, 12, 64, 1<<8 + 7, 1<<16 + 1, 1<<32 + 1, 1<<32 + 7, leastInt, leastInt + 1, leastInt + 7, greatestInt - 1, greatestInt}
}

// noCums are below 0; some are not in their lower bits.
func noCums() []int {
	return []int{-1, -2, -10, -1 << 31, -1 << 32, -1<<32 + 1, -api.MaxQty, leastInt + 1, leastInt}
}

func wantNext(t *testing.T, state, event, cum, next int, e api.Errno) {
	t.Helper()
	for range 2 {
		if got, gotE := matrix.Next(state, event, cum); got != next || gotE != e {
			t.Fatalf("Next(%d, %d, %d): %d, %d; asked for: %d, %d", state, event, cum, got, gotE, next, e)
		}
	}
}

// wantError asks for a state of 0 beside the error, too.
func wantError(t *testing.T, state, event, cum int, e api.Errno) {
	t.Helper()
	wantNext(t, state, event, cum, 0, e)
}

// cells are the chapter's table's texts, by state and event.
func cells(t *testing.T) map[[2]int]string {
	t.Helper()
	lines := strings.Split(strings.TrimSpace(chapter), "\n")
	heads := cut(lines[0])[1:]
	all := map[[2]int]string{}
	for _, line := range lines[2:] {
		texts := cut(line)
		for i, text := range texts[1:] {
			state, event := stateNames()[texts[0]], eventNames()[heads[i]]
			if state == 0 || event == 0 {
				t.Fatalf("%q, %q: no row or column of the table", texts[0], heads[i])
			}
			all[[2]int{state, event}] = text
		}
	}
	if len(all) != 8*10 {
		t.Fatalf("the table has %d places", len(all))
	}
	return all
}

// cut is a line of the table, cut into its texts.
func cut(line string) []string {
	parts := strings.Split(strings.Trim(line, "|"), "|")
	for i := range parts {
		parts[i] = strings.TrimSpace(parts[i])
	}
	return parts
}

// asked is what the chapter asks Next for, of a text of its table.
func asked(text string, state, cum int) (int, api.Errno) {
	switch {
	case text == "-":
		return 0, api.ErrState
	case text == "same":
		return state, api.OK
	case text == "back" && cum == 0:
		return api.SNew, api.OK
	case text == "back":
		return api.SPartial, api.OK
	}
	return stateNames()[text], api.OK
}

// P20.1: the chapter's examples.
func TestExamples(t *testing.T) {
	wantNext(t, api.SPending, api.ETrade, 0, api.SPartial, api.OK)
	wantNext(t, api.SCanceling, api.ERefused, 5, api.SPartial, api.OK)
	wantNext(t, api.SCanceling, api.ERefused, 0, api.SNew, api.OK)
	wantError(t, api.SFilled, api.ETrade, 5, api.ErrState)
}

// P20.2: what is open is not done, and what is done not open.
func TestOpenAndDone(t *testing.T) {
	for _, s := range openStates() {
		if !matrix.Open(s) || matrix.Done(s) {
			t.Errorf("%d is open: Open %v, Done %v", s, matrix.Open(s), matrix.Done(s))
		}
	}
	for _, s := range doneStates() {
		if matrix.Open(s) || !matrix.Done(s) {
			t.Errorf("%d is done: Open %v, Done %v", s, matrix.Open(s), matrix.Done(s))
		}
	}
	for _, s := range noStates() {
		if matrix.Open(s) || matrix.Done(s) {
			t.Errorf("%d is no state: Open %v, Done %v", s, matrix.Open(s), matrix.Done(s))
		}
	}
}

// P20.2: each state has its word, what is no state has none.
func TestWord(t *testing.T) {
	words := map[int]string{
		api.SPending: "pending", api.SNew: "new", api.SPartial: "partial", api.SCanceling: "canceling",
		api.SReplacing: "replacing", api.SFilled: "filled", api.SCanceled: "canceled", api.SRejected: "rejected",
	}
	for _, s := range states() {
		if got := matrix.Word(s); got != words[s] || got == "" {
			t.Errorf("Word(%d): %q; asked for: %q", s, got, words[s])
		}
	}
	for _, s := range noStates() {
		if got := matrix.Word(s); got != "" {
			t.Errorf("Word(%d): %q, of no state", s, got)
		}
	}
}
