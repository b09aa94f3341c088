// Package twin makes copies that share no memory with what they are made of, for all layers alike.
package twin

import "portage/api"

// Session is the same session, with a list of its own.
func Session(s api.Session) api.Session {
	s.Kept = append([]api.Reply(nil), s.Kept...)
	return s
}

// State is the same state, with lists of its own.
func State(s api.State) api.State {
	var table []api.Session
	for _, r := range s.Table {
		table = append(table, Session(r))
	}
	s.Table = table
	return s
}

// Entries are the same entries, in a list of their own.
func Entries(l []api.Entry) []api.Entry { return append([]api.Entry(nil), l...) }

// Log is the same log, with lists of its own.
func Log(l api.Log) api.Log { return api.Log{Base: State(l.Base), Tail: Entries(l.Tail)} }

// Group is the same group, with lists of its own.
func Group(g api.Group) api.Group {
	g.Log = Log(g.Log)
	for i, s := range g.Nodes {
		g.Nodes[i] = State(s)
	}
	return g
}

// Stub is the same client's own, with a list of its own.
func Stub(s api.Stub) api.Stub {
	s.Came = append([]int(nil), s.Came...)
	return s
}
