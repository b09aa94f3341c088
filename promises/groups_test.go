package promises

import (
	"testing"

	"portage/api"
	"portage/fold"
	"portage/group"
	"portage/node"
	"portage/pack"
	"portage/state"
)

// right entries are those that may be applied.
func right() []api.Entry { return entries()[:len(entries())-1] }

// ahead is the shop behind so many of them.
func ahead(n int) api.State {
	s, _, _ := fold.All(shop(), right()[:n])
	return s
}

// logs: with no entries, with some, with all, and with a wrong one.
func logs() []api.Log {
	return []api.Log{
		{}, {Base: shop()}, {Base: shop(), Tail: right()}, {Base: ahead(4), Tail: right()[4:]}, {Tail: done()}, {Base: shop(), Tail: entries()},
	}
}

// askLog asks something of a log, askNode of a log and a node's state, askGroup of a group.
func askLog(name string, l api.Log, call func(l api.Log) []any) ask {
	return ask{
		name: name,
		args: func() []any { return []any{l} },
		call: func(a []any) []any { return call(a[0].(api.Log)) },
	}
}

func askNode(name string, l api.Log, s api.State, call func(l api.Log, s api.State) []any) ask {
	return ask{
		name: name,
		args: func() []any { return []any{l, s} },
		call: func(a []any) []any { return call(a[0].(api.Log), a[1].(api.State)) },
	}
}

func askGroup(name string, g api.Group, call func(g api.Group) []any) ask {
	return ask{
		name: name,
		args: func() []any { return []any{g} },
		call: func(a []any) []any { return call(a[0].(api.Group)) },
	}
}

// P2 and P3 of pack.
func TestPackMemory(t *testing.T) {
	for _, l := range logs() {
		checkMemory(t, askLog("Check", l, func(l api.Log) []any { return []any{pack.Check(l)} }))
		checkMemory(t, askLog("End", l, func(l api.Log) []any {
			s, e := pack.End(l)
			return []any{s, e}
		}))
		for n := range len(l.Tail) + 2 {
			checkMemory(t, askLog("Cut", l, func(l api.Log) []any {
				x, e := pack.Cut(l, n)
				return []any{x, e}
			}))
		}
		for _, x := range entries() {
			checkMemory(t, askLog("Put", l, func(l api.Log) []any {
				longer, n, e := pack.Put(l, x)
				return []any{longer, n, e}
			}))
		}
	}
}

// P2 and P3 of node: of states that take the base, that fit, and that don't.
func TestNodeMemory(t *testing.T) {
	for _, l := range logs() {
		for _, s := range []api.State{state.Begin(), shop(), ahead(4), ahead(7), ahead(12), {At: 51}} {
			checkMemory(t, askNode("Fits", l, s, func(l api.Log, s api.State) []any {
				is, e := node.Fits(l, s)
				return []any{is, e}
			}))
			for _, n := range []int{0, 1, 5, 50, 51} {
				checkMemory(t, askNode("Run", l, s, func(l api.Log, s api.State) []any {
					then, k, e := node.Run(l, s, n)
					return []any{then, k, e}
				}))
			}
		}
	}
}

// P2 and P3 of group.
func TestGroupMemory(t *testing.T) {
	for _, g := range groups() {
		checkMemory(t, askGroup("Check", g, func(g api.Group) []any { return []any{group.Check(g)} }))
		for n := range 4 {
			checkMemory(t, askGroup("Run", g, func(g api.Group) []any {
				x, k, e := group.Run(g, n, n)
				return []any{x, k, e}
			}))
			checkMemory(t, askGroup("Cut", g, func(g api.Group) []any {
				x, e := group.Cut(g, 4*n)
				return []any{x, e}
			}))
		}
		for _, x := range entries() {
			checkMemory(t, askGroup("Put", g, func(g api.Group) []any {
				longer, n, e := group.Put(g, x)
				return []any{longer, n, e}
			}))
		}
	}
	checkMemory(t, ask{
		name: "Begin",
		args: func() []any { return nil },
		call: func([]any) []any { return []any{group.Begin()} },
	})
}

// groups: in the beginning, at work, with nodes that take the base, and with a wrong one.
func groups() []api.Group {
	whole, cut := api.Log{Base: shop(), Tail: right()}, api.Log{Base: ahead(4), Tail: right()[4:]}
	return []api.Group{
		group.Begin(),
		{Log: whole, Nodes: [api.Nodes]api.State{shop(), ahead(4), ahead(12)}},
		{Log: cut, Nodes: [api.Nodes]api.State{shop(), ahead(4), ahead(12)}},
		{Log: cut, Nodes: [api.Nodes]api.State{shop(), ahead(4), {At: 51}}},
	}
}

// P2: nodes, and the log's base, that shared memory when they were handed in don't share it in what is answered.
func TestNodesApart(t *testing.T) {
	s, tail := shop(), right()
	shared := api.Group{Log: api.Log{Base: s, Tail: tail}, Nodes: [api.Nodes]api.State{s, s, s}}
	put, _, e := group.Put(shared, open(60, 1))
	run, _, f := group.Run(shared, 1, 0)
	cut, h := group.Cut(shared, 0)
	if e != api.OK || f != api.OK || h != api.OK {
		t.Fatalf("errors %d %d %d", e, f, h)
	}
	if meet(places(boxes([]any{put, run, cut, s, tail}))) {
		t.Errorf("lists share memory")
	}
}
