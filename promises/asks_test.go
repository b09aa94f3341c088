package promises

import (
	"testing"

	"portage/api"
	"portage/apply"
	"portage/fold"
	"portage/state"
)

func row(client int) api.Session {
	return api.Session{Client: client, Acked: 2, Seen: 30, Kept: []api.Reply{{Seq: 3, Val: 7}, {Seq: 5, Val: api.Fail}}}
}

func shop() api.State {
	return api.State{At: 6, Clock: 40, Vals: [api.Keys]int{7, 0, 0, 1}, Table: []api.Session{row(2), row(4)}}
}

func open(time, client int) api.Entry {
	return api.Entry{Kind: api.Open, Time: time, Client: client}
}

func shut(time, client int) api.Entry {
	return api.Entry{Kind: api.Close, Time: time, Client: client}
}

func call(time, client, seq, ack int) api.Entry {
	return api.Entry{Kind: api.Call, Time: time, Client: client, Seq: seq, Ack: ack, Op: api.Op{Kind: api.Add, N: 3}}
}

// entries that take each way through applying, on the shop.
func entries() []api.Entry {
	return []api.Entry{
		open(41, 2), open(41, 3), open(52, 3), shut(41, 2), shut(41, 3),
		call(41, 3, 1, 0), call(41, 2, 4, 2), call(41, 2, 3, 2), call(41, 2, 5, 3), call(41, 2, 6, 5), call(41, 2, 1, 0), call(41, 2, 6, 2), {},
	}
}

// askOne applies one entry to a state, askAll all of a list.
func askOne(name string, s func() api.State, e api.Entry) ask {
	return ask{
		name: name,
		args: func() []any { return []any{s(), e} },
		call: func(a []any) []any {
			then, n, is, f := apply.One(a[0].(api.State), a[1].(api.Entry))
			return []any{then, n, is, f}
		},
	}
}

func askAll(name string, s func() api.State, l []api.Entry) ask {
	return ask{
		name: name,
		args: func() []any { return []any{s(), l} },
		call: func(a []any) []any {
			then, n, f := fold.All(a[0].(api.State), a[1].([]api.Entry))
			return []any{then, n, f}
		},
	}
}

// P2 and P3 of apply.
func TestApplyMemory(t *testing.T) {
	for _, e := range entries() {
		checkMemory(t, askOne("One", shop, e))
		checkMemory(t, ask{
			name: "Check",
			args: func() []any { return []any{e} },
			call: func(a []any) []any { return []any{apply.Check(a[0].(api.Entry))} },
		})
	}
}

// P2 and P3 of fold: of no entries, of one of each kind, of all.
func TestFoldMemory(t *testing.T) {
	all := entries()
	lists := [][]api.Entry{nil, {}, all, all[:len(all)-1]}
	for i := range all {
		lists = append(lists, all[i:i+1])
	}
	for _, l := range lists {
		checkMemory(t, askAll("All", shop, l))
		checkMemory(t, askAll("All from the beginning", state.Begin, l))
		checkMemory(t, ask{
			name: "Check",
			args: func() []any { return []any{l} },
			call: func(a []any) []any { return []any{fold.Check(a[0].([]api.Entry))} },
		})
	}
}

// P2: lists that shared memory when they were handed in don't share it in what is answered.
func TestListsApart(t *testing.T) {
	kept := row(1).Kept
	shared := func() api.State {
		s := shop()
		s.Table[0].Kept, s.Table[1].Kept = kept, kept
		return s
	}
	for _, e := range entries() {
		s, _, _, _ := apply.One(shared(), e)
		if meet(places(boxes([]any{s, kept}))) {
			t.Errorf("One of %v: lists share memory", e)
		}
	}
	for k := range len(entries()) {
		s, a, _ := fold.All(shared(), entries()[:k])
		if meet(places(boxes([]any{s, a, kept}))) {
			t.Errorf("All of %d: lists share memory", k)
		}
	}
}
