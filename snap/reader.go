package snap

import "portage/api"

// reader has the bytes that are not read yet.
type reader struct{ rest string }

// parse reads a state, be it right or not. It is not whole, if the bytes end too early, or if some are left.
func parse(b string) (s api.State, whole bool) {
	defer func() {
		if recover() != nil {
			s, whole = api.State{}, false
		}
	}()
	r := reader{b}
	s = readState(&r)
	return s, r.rest == ""
}

func readState(r *reader) api.State {
	s := api.State{At: r.small(), Clock: r.wide()}
	for i := range s.Vals {
		s.Vals[i] = r.wide()
	}
	s.Table = list(r, readSession)
	return s
}

func readSession(r *reader) api.Session {
	return api.Session{Client: r.small(), Acked: r.small(), Seen: r.wide(), Kept: list(r, readReply)}
}

func readReply(r *reader) api.Reply {
	return api.Reply{Seq: r.small(), Val: r.wide() - shift}
}

// list reads how many there are, and each of them.
func list[T any](r *reader, one func(r *reader) T) []T {
	var out []T
	for range r.small() {
		out = append(out, one(r))
	}
	return out
}

// small panics where the bytes end, so that whoever reads need not ask for it at each number; parse recovers.
func (r *reader) small() int {
	if r.rest == "" {
		panic("the bytes end too early")
	}
	n := int(r.rest[0])
	r.rest = r.rest[1:]
	return n
}

func (r *reader) wide() int {
	high := r.small()
	return high<<8 + r.small()
}
