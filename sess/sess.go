// Package sess: sessions: see doc/02-sess.md.
package sess

import (
	"portage/api"
	"portage/bound"
	"portage/twin"
)

// Check tells whether these are sessions as a state may have them.
func Check(l []api.Session) api.Errno {
	if len(l) > api.MaxTable {
		return api.ErrMany
	}
	for _, s := range l {
		if e := checkOne(s); e != api.OK {
			return e
		}
	}
	for i := 1; i < len(l); i++ {
		if l[i-1].Client >= l[i].Client {
			return api.ErrForm
		}
	}
	return api.OK
}

// Find finds a client's session.
func Find(l []api.Session, client int) (api.Session, bool, api.Errno) {
	if e := Check(l); e != api.OK {
		return api.Session{}, false, e
	}
	for _, s := range l {
		if s.Client == client {
			return twin.Session(s), true, api.OK
		}
	}
	return api.Session{}, false, api.OK
}

// Put puts a session in the place of its client's, or where it belongs.
func Put(l []api.Session, s api.Session) ([]api.Session, api.Errno) {
	if e := Check(l); e != api.OK {
		return nil, e
	}
	if e := checkOne(s); e != api.OK {
		return nil, e
	}
	out := those(l, func(o api.Session) bool { return o.Client < s.Client })
	out = append(out, twin.Session(s))
	out = append(out, those(l, func(o api.Session) bool { return o.Client > s.Client })...)
	if len(out) > api.MaxTable {
		return nil, api.ErrMany
	}
	return out, api.OK
}

// Drop leaves a client's session out.
func Drop(l []api.Session, client int) ([]api.Session, api.Errno) {
	if e := Check(l); e != api.OK {
		return nil, e
	}
	out := those(l, func(o api.Session) bool { return o.Client != client })
	if len(out) == len(l) {
		return nil, api.ErrNone
	}
	return out, api.OK
}

// Fresh leaves out the sessions that were used too long ago.
func Fresh(l []api.Session, clock int) ([]api.Session, api.Errno) {
	if e := Check(l); e != api.OK {
		return nil, e
	}
	if !bound.In(clock, 0, api.MaxTime) {
		return nil, api.ErrRange
	}
	return those(l, func(o api.Session) bool { return o.Seen >= clock-api.Life }), api.OK
}

func checkOne(s api.Session) api.Errno {
	if !bound.In(s.Client, 1, api.Clients) || !bound.In(s.Acked, 0, api.MaxSeq) || !bound.In(s.Seen, 0, api.MaxTime) {
		return api.ErrRange
	}
	low, high := s.Acked+1, min(s.Acked+api.Window, api.MaxSeq)
	for _, r := range s.Kept {
		if !bound.In(r.Seq, low, high) || !bound.In(r.Val, api.Fail, api.MaxVal) {
			return api.ErrForm
		}
		low = r.Seq + 1
	}
	return api.OK
}

// those has the sessions that are wanted, in memory of their own.
func those(l []api.Session, wanted func(api.Session) bool) []api.Session {
	var out []api.Session
	for _, s := range l {
		if wanted(s) {
			out = append(out, twin.Session(s))
		}
	}
	return out
}
