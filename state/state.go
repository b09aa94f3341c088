// Package state: states: see doc/03-state.md.
package state

import (
	"slices"

	"portage/api"
	"portage/bound"
	"portage/sess"
)

// Begin is the state ahead of all entries.
func Begin() api.State { return api.State{} }

// Check tells whether a state is one that may be.
func Check(s api.State) api.Errno {
	if !inBounds(s) {
		return api.ErrRange
	}
	if e := sess.Check(s.Table); e != api.OK {
		return e
	}
	for _, r := range s.Table {
		if !bound.In(r.Seen, s.Clock-api.Life, s.Clock) {
			return api.ErrForm
		}
	}
	return api.OK
}

// Same tells whether two states are the same, be they right or not.
func Same(a, b api.State) bool {
	return a.At == b.At && a.Clock == b.Clock && a.Vals == b.Vals && slices.EqualFunc(a.Table, b.Table, sameSession)
}

func sameSession(a, b api.Session) bool {
	return a.Client == b.Client && a.Acked == b.Acked && a.Seen == b.Seen && slices.Equal(a.Kept, b.Kept)
}

func inBounds(s api.State) bool {
	for _, v := range s.Vals {
		if !bound.In(v, 0, api.MaxVal) {
			return false
		}
	}
	return bound.In(s.At, 0, api.MaxLog) && bound.In(s.Clock, 0, api.MaxTime)
}
