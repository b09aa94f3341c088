package promises

import (
	"testing"

	"portage/api"
	"portage/apply"
	"portage/fold"
	"portage/snap"
	"portage/state"
	"portage/trace"
)

func row(client int) api.Session {
	return api.Session{Client: client, Acked: 2, Seen: 30, Kept: []api.Reply{{Seq: 3, Val: 7}, {Seq: 5, Val: api.Fail}}}
}

func shop() api.State {
	return api.State{At: 6, Clock: 40, Vals: [api.Keys]int{7, 0, 0, 1}, Table: []api.Session{row(2), row(4)}}
}

func open(time, client int) api.Entry {
	return api.Entry{Kind: api.Open, Time: time, Client: client}
}

func shut(time, client int) api.Entry {
	return api.Entry{Kind: api.Close, Time: time, Client: client}
}

func call(time, client, seq, ack int) api.Entry {
	return api.Entry{Kind: api.Call, Time: time, Client: client, Seq: seq, Ack: ack, Op: api.Op{Kind: api.Add, N: 3}}
}

// entries that take each way through applying, on the shop.
func entries() []api.Entry {
	return []api.Entry{
		open(41, 2), open(41, 3), open(52, 3), shut(41, 2), shut(41, 3),
		call(41, 3, 1, 0), call(41, 2, 4, 2), call(41, 2, 3, 2), call(41, 2, 5, 3), call(41, 2, 6, 5), call(41, 2, 1, 0), call(41, 2, 6, 2), {},
	}
}

// askOne applies one entry to a state, askAll all of a list.
func askOne(name string, s func() api.State, e api.Entry) ask {
	return ask{
		name: name,
		args: func() []any { return []any{s(), e} },
		call: func(a []any) []any {
			then, n, is, f := apply.One(a[0].(api.State), a[1].(api.Entry))
			return []any{then, n, is, f}
		},
	}
}

func askAll(name string, s func() api.State, l []api.Entry) ask {
	return ask{
		name: name,
		args: func() []any { return []any{s(), l} },
		call: func(a []any) []any {
			then, n, f := fold.All(a[0].(api.State), a[1].([]api.Entry))
			return []any{then, n, f}
		},
	}
}

// P2 and P3 of apply.
func TestApplyMemory(t *testing.T) {
	for _, e := range entries() {
		checkMemory(t, askOne("One", shop, e))
		checkMemory(t, ask{
			name: "Check",
			args: func() []any { return []any{e} },
			call: func(a []any) []any { return []any{apply.Check(a[0].(api.Entry))} },
		})
	}
}

// lists of entries: none, one of each kind, all, and those without the wrong one.
func lists() [][]api.Entry {
	all := entries()
	out := [][]api.Entry{nil, {}, all, all[:len(all)-1]}
	for i := range all {
		out = append(out, all[i:i+1])
	}
	return out
}

// P2 and P3 of fold.
func TestFoldMemory(t *testing.T) {
	for _, l := range lists() {
		checkMemory(t, askAll("All", shop, l))
		checkMemory(t, askAll("All from the beginning", state.Begin, l))
		checkMemory(t, ask{
			name: "Check",
			args: func() []any { return []any{l} },
			call: func(a []any) []any { return []any{fold.Check(a[0].([]api.Entry))} },
		})
	}
}

// P2: lists that shared memory when they were handed in don't share it in what is answered.
func TestListsApart(t *testing.T) {
	kept := row(1).Kept
	shared := func() api.State {
		s := shop()
		s.Table[0].Kept, s.Table[1].Kept = kept, kept
		return s
	}
	for _, e := range entries() {
		s, _, _, _ := apply.One(shared(), e)
		if meet(places(boxes([]any{s, kept}))) {
			t.Errorf("One of %v: lists share memory", e)
		}
	}
	for k := range len(entries()) {
		s, a, _ := fold.All(shared(), entries()[:k])
		if meet(places(boxes([]any{s, a, kept}))) {
			t.Errorf("All of %d: lists share memory", k)
		}
	}
}

// done are entries of which each call but the last is done, from the beginning on.
func done() []api.Entry {
	return []api.Entry{open(1, 2), open(1, 4), call(2, 2, 3, 0), call(2, 4, 1, 0), call(3, 2, 4, 2), call(3, 2, 3, 0)}
}

// askTrace asks what was done by a list of entries.
func askTrace(name string, l []api.Entry, call func(l []api.Entry) []any) ask {
	return ask{
		name: name,
		args: func() []any { return []any{l} },
		call: func(a []any) []any { return call(a[0].([]api.Entry)) },
	}
}

// P2 and P3 of trace.
func TestTraceMemory(t *testing.T) {
	for _, l := range append(lists(), done()) {
		checkMemory(t, askTrace("Done", l, func(l []api.Entry) []any {
			is, e := trace.Done(l)
			return []any{is, e}
		}))
		checkMemory(t, askTrace("Ops", l, func(l []api.Entry) []any {
			ops, e := trace.Ops(l)
			return []any{ops, e}
		}))
		checkMemory(t, askTrace("Once", l, func(l []api.Entry) []any {
			n, e := trace.Once(l, 2, 3)
			return []any{n, e}
		}))
	}
}

// P2 and P3 of snap: of right states, and of wrong ones.
func TestSnapMemory(t *testing.T) {
	wrong := shop()
	wrong.Table[0], wrong.Table[1] = wrong.Table[1], wrong.Table[0]
	for _, s := range []api.State{state.Begin(), shop(), wrong} {
		checkMemory(t, ask{
			name: "Write",
			args: func() []any { return []any{s} },
			call: func(a []any) []any {
				b, e := snap.Write(a[0].(api.State))
				return []any{b, e}
			},
		})
	}
	good, _ := snap.Write(shop())
	for _, b := range []string{good, good[1:], good + "x", ""} {
		checkMemory(t, ask{
			name: "Read",
			args: func() []any { return []any{b} },
			call: func(a []any) []any {
				s, e := snap.Read(a[0].(string))
				return []any{s, e}
			},
		})
	}
}
