// Package twin makes copies that share no memory with what they are made of, for all layers alike.
package twin

import "portage/api"

// Session is the same session, with a list of its own.
func Session(s api.Session) api.Session {
	s.Kept = append([]api.Reply(nil), s.Kept...)
	return s
}

// State is the same state, with lists of its own.
func State(s api.State) api.State {
	var table []api.Session
	for _, r := range s.Table {
		table = append(table, Session(r))
	}
	s.Table = table
	return s
}
