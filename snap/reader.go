package snap

import (
	"portage/api"
	"portage/octet"
)

// parse reads a state, be it right or not. It is not whole, if the bytes end too early, or if some are left.
func parse(b string) (api.State, bool) {
	s, size, whole := octet.Read(b, readState)
	return s, whole && size == len(b)
}

func readState(r *octet.Reader) api.State {
	s := api.State{At: r.Small(), Clock: r.Wide()}
	for i := range s.Vals {
		s.Vals[i] = r.Wide()
	}
	s.Table = list(r, readSession)
	return s
}

func readSession(r *octet.Reader) api.Session {
	return api.Session{Client: r.Small(), Acked: r.Small(), Seen: r.Wide(), Kept: list(r, readReply)}
}

func readReply(r *octet.Reader) api.Reply {
	return api.Reply{Seq: r.Small(), Val: r.Wide() - shift}
}

// list reads how many there are, and each of them.
func list[T any](r *octet.Reader, one func(r *octet.Reader) T) []T {
	var out []T
	for range r.Small() {
		out = append(out, one(r))
	}
	return out
}
