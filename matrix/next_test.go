package matrix_test

import (
	"testing"

	"spigot/api"
)

// P20.1: each state with each event, whatever is executed, is as the chapter's table says; beside an error the state is 0.
func TestTable(t *testing.T) {
	all := cells(t)
	for _, state := range states() {
		for _, event := range events() {
			for _, cum := range cums() {
				next, e := asked(all[[2]int{state, event}], state, cum)
				wantNext(t, state, event, cum, next, e)
			}
		}
	}
}

// P20.1: behind what leads back the state is SNew with nothing executed, and SPartial with anything.
func TestBack(t *testing.T) {
	for _, at := range [][2]int{{api.SPartial, api.EBust}, {api.SCanceling, api.ERefused}, {api.SReplacing, api.EReplaced}, {api.SReplacing, api.ERefused}} {
		wantNext(t, at[0], at[1], 0, api.SNew, api.OK)
		for _, cum := range cums()[1:] {
			wantNext(t, at[0], at[1], cum, api.SPartial, api.OK)
		}
	}
}

// P20.1: what leaves the state the same does so whatever is executed; a bust does not lead back while a request is under way, nor out of a state that is done.
func TestSame(t *testing.T) {
	for _, at := range [][2]int{
		{api.SPending, api.EBust}, {api.SNew, api.EBust},
		{api.SPartial, api.EAck}, {api.SPartial, api.ETrade},
		{api.SCanceling, api.EAck}, {api.SCanceling, api.ETrade}, {api.SCanceling, api.EBust},
		{api.SReplacing, api.ETrade}, {api.SReplacing, api.EBust},
		{api.SFilled, api.EBust}, {api.SCanceled, api.EBust},
	} {
		for _, cum := range cums() {
			wantNext(t, at[0], at[1], cum, at[0], api.OK)
		}
	}
}

// P20.1: what leads to one state leads to it whatever is executed, even to SPartial with nothing.
func TestCumDoesNotCount(t *testing.T) {
	for _, cum := range cums() {
		wantNext(t, api.SPending, api.EAck, cum, api.SNew, api.OK)
		wantNext(t, api.SPending, api.ETrade, cum, api.SPartial, api.OK)
		wantNext(t, api.SNew, api.ETrade, cum, api.SPartial, api.OK)
		wantNext(t, api.SNew, api.EReplace, cum, api.SReplacing, api.OK)
		wantNext(t, api.SPartial, api.ECancel, cum, api.SCanceling, api.OK)
		for _, state := range openStates() {
			wantNext(t, state, api.EFill, cum, api.SFilled, api.OK)
			wantNext(t, state, api.ECanceled, cum, api.SCanceled, api.OK)
		}
	}
}

// P20.1: what may not happen is refused whatever is executed: no second request while one is under way, no replace ahead of an answer, nothing but a bust to what is done, and no bust to what was rejected.
func TestMayNotHappen(t *testing.T) {
	for _, cum := range cums() {
		for _, state := range []int{api.SCanceling, api.SReplacing} {
			wantError(t, state, api.ECancel, cum, api.ErrState)
			wantError(t, state, api.EReplace, cum, api.ErrState)
		}
		wantError(t, api.SPending, api.EReplace, cum, api.ErrState)
		wantError(t, api.SNew, api.EAck, cum, api.ErrState)
		wantError(t, api.SReplacing, api.EAck, cum, api.ErrState)
		for _, state := range doneStates() {
			for _, event := range events() {
				if event != api.EBust || state == api.SRejected {
					wantError(t, state, event, cum, api.ErrState)
				}
			}
		}
	}
}

// P20.1: what is no state is refused, whichever event.
func TestNoState(t *testing.T) {
	for _, state := range noStates() {
		for _, event := range events() {
			for _, cum := range cums() {
				wantError(t, state, event, cum, api.ErrArg)
			}
		}
	}
}

// P20.1: what is no event is refused, in whichever state: it is not taken for one that may not happen.
func TestNoEvent(t *testing.T) {
	for _, event := range noEvents() {
		for _, state := range states() {
			for _, cum := range cums() {
				wantError(t, state, event, cum, api.ErrArg)
			}
		}
	}
}

// P20.1: less than nothing executed is refused, also where it does not count and ahead of what may not happen.
func TestNoCum(t *testing.T) {
	for _, cum := range noCums() {
		for _, state := range states() {
			for _, event := range events() {
				wantError(t, state, event, cum, api.ErrArg)
			}
		}
	}
}

// P20.1: two or three wrong arguments at once are told by one error.
func TestManyWrong(t *testing.T) {
	for _, state := range noStates() {
		for _, event := range noEvents() {
			for _, cum := range append(cums(), noCums()...) {
				wantError(t, state, event, cum, api.ErrArg)
			}
		}
		for _, event := range events() {
			for _, cum := range noCums() {
				wantError(t, state, event, cum, api.ErrArg)
			}
		}
	}
	for _, state := range states() {
		for _, event := range noEvents() {
			for _, cum := range noCums() {
				wantError(t, state, event, cum, api.ErrArg)
			}
		}
	}
}
