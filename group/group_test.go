package group

import (
	"math"
	"reflect"
	"slices"
	"testing"

	"portage/api"
	"portage/fold"
	"portage/state"
)

func add(n int) api.Op { return api.Op{Kind: api.Add, N: n} }

func open(time, client int) api.Entry {
	return api.Entry{Kind: api.Open, Time: time, Client: client}
}

func call(time, client, seq, ack int, x api.Op) api.Entry {
	return api.Entry{Kind: api.Call, Time: time, Client: client, Seq: seq, Ack: ack, Op: x}
}

// ten entries; each one changes the state otherwise.
func ten() []api.Entry {
	return []api.Entry{
		open(1, 1), call(2, 1, 1, 0, add(5)), call(3, 1, 1, 0, add(5)), call(4, 2, 1, 0, add(7)), open(4, 2),
		call(5, 1, 2, 1, api.Op{Kind: api.Move, To: 1, N: 2}), call(6, 1, 1, 0, add(5)), call(40, 1, 2, 1, add(1)), open(41, 1), call(42, 1, 1, 0, add(9)),
	}
}

// at is the state behind so many of them.
func at(n int) api.State {
	s, _, _ := fold.All(state.Begin(), ten()[:n])
	return s
}

// club is a group whose log of ten is cut, with nodes behind so many entries.
func club(cut, a, b, c int) api.Group {
	return api.Group{Log: api.Log{Base: at(cut), Tail: ten()[cut:]}, Nodes: [api.Nodes]api.State{at(a), at(b), at(c)}}
}

func turned(g api.Group, turn func(g *api.Group)) api.Group {
	turn(&g)
	return g
}

// many has so many entries, each right.
func many(n int) []api.Entry { return slices.Repeat([]api.Entry{open(1, 1)}, n) }

func same(a, b api.Group) bool {
	for i := range a.Nodes {
		if !state.Same(a.Nodes[i], b.Nodes[i]) {
			return false
		}
	}
	return state.Same(a.Log.Base, b.Log.Base) && slices.Equal(a.Log.Tail, b.Log.Tail)
}

// J1: Begin.
func TestBegin(t *testing.T) {
	g := Begin()
	if !same(g, api.Group{}) {
		t.Errorf("Begin is %v", g)
	}
	if e := Check(g); e != api.OK {
		t.Errorf("Check of Begin is %d", e)
	}
	g.Log.Tail, g.Nodes[0].At = append(g.Log.Tail, open(1, 1)), 1
	if !same(Begin(), api.Group{}) {
		t.Errorf("Begin is %v the second time", Begin())
	}
}

type groupCase struct {
	what string
	turn func(g *api.Group)
	want api.Errno
}

func twice() []api.Session { return []api.Session{{Client: 1, Seen: 1}, {Client: 1, Seen: 1}} }

func four() []api.Session { return make([]api.Session, 4) }

// groupCases are turns of a group whose log is cut behind three, and whose nodes are at 3, 6 and 2.
func groupCases() []groupCase {
	return []groupCase{
		{"as it was", func(g *api.Group) {}, api.OK},
		{"all at the end", func(g *api.Group) { g.Nodes = [api.Nodes]api.State{at(10), at(10), at(10)} }, api.OK},
		{"all anew", func(g *api.Group) { g.Nodes = [api.Nodes]api.State{} }, api.OK},
		{"one that the base takes the place of, whatever it has", func(g *api.Group) { g.Nodes[2] = api.State{At: 2, Clock: 999, Vals: [api.Keys]int{9, 9, 9, 9}} }, api.OK},
		{"two of these, of one number, that are not the same", func(g *api.Group) { g.Nodes[0], g.Nodes[2].Vals[0] = at(2), 9 }, api.OK},
		{"another base, of which no node has anything", func(g *api.Group) {
			g.Log.Base, g.Nodes = api.State{At: 7, Vals: [api.Keys]int{9}}, [api.Nodes]api.State{}
		}, api.OK},

		{"the base out of bounds", func(g *api.Group) { g.Log.Base.At = 51 }, api.ErrRange},
		{"the base's sessions too many", func(g *api.Group) { g.Log.Base.Table = four() }, api.ErrMany},
		{"the base's sessions twice", func(g *api.Group) { g.Log.Base.Table = twice() }, api.ErrForm},
		{"no kind", func(g *api.Group) { g.Log.Tail = []api.Entry{{}} }, api.ErrKind},
		{"too many entries", func(g *api.Group) { g.Log.Tail = many(48) }, api.ErrMany},
		{"as many as there may be", func(g *api.Group) { g.Log.Tail, g.Nodes[1] = many(47), at(3) }, api.OK},

		{"the first doesn't fit", func(g *api.Group) { g.Nodes[0].Vals[0]++ }, api.ErrForm},
		{"the second doesn't fit", func(g *api.Group) { g.Nodes[1].Clock++ }, api.ErrForm},
		{"the last doesn't fit", func(g *api.Group) { g.Nodes[2].At = 3 }, api.ErrForm},
		{"one is behind the end", func(g *api.Group) { g.Nodes[1] = api.State{At: 11, Clock: 42, Vals: at(10).Vals, Table: at(10).Table} }, api.ErrForm},
		{"another base", func(g *api.Group) { g.Log.Base.Vals[3] = 1 }, api.ErrForm},
		{"another entry that one has applied", func(g *api.Group) { g.Log.Tail[1].Time = 5 }, api.ErrForm},
		{"another entry that none has applied", func(g *api.Group) { g.Log.Tail[3].Time = 7 }, api.OK},
		{"fewer entries than one has applied", func(g *api.Group) { g.Log.Tail = g.Log.Tail[:2] }, api.ErrForm},
		{"just as many as one has applied", func(g *api.Group) { g.Log.Tail = g.Log.Tail[:3] }, api.OK},
		{"the first out of bounds", func(g *api.Group) { g.Nodes[0].At = -1 }, api.ErrRange},
		{"the second's sessions too many", func(g *api.Group) { g.Nodes[1].Table = four() }, api.ErrMany},
		{"the last's sessions twice, behind the base", func(g *api.Group) { g.Nodes[2].Table = twice() }, api.ErrForm},
		{"the last's sessions too many, behind the base", func(g *api.Group) { g.Nodes[2].Table = four() }, api.ErrMany},
		{"the last out of bounds, above", func(g *api.Group) { g.Nodes[2].At = 51 }, api.ErrRange},

		{"the log ahead of nodes", func(g *api.Group) { g.Log.Tail, g.Nodes[0].At = []api.Entry{{}}, -1 }, api.ErrKind},
		{"the log's form ahead of a node's many", func(g *api.Group) { g.Log.Base.Table, g.Nodes[0].Table = twice(), four() }, api.ErrForm},
		{"the first's fit ahead of the second's range", func(g *api.Group) { g.Nodes[0].Vals[0], g.Nodes[1].At = 9, -1 }, api.ErrForm},
		{"the second's many ahead of the last's fit", func(g *api.Group) { g.Nodes[1].Table, g.Nodes[2].At = four(), 3 }, api.ErrMany},
		{"the second's range ahead of the last's many", func(g *api.Group) { g.Nodes[1].At, g.Nodes[2].Table = 51, four() }, api.ErrRange},
		{"a node's range ahead of its fit", func(g *api.Group) { g.Nodes[1].Vals[0] = 1000 }, api.ErrRange},
	}
}

// J1: Check.
func TestCheck(t *testing.T) {
	for _, c := range groupCases() {
		if got := Check(turned(club(3, 3, 6, 2), c.turn)); got != c.want {
			t.Errorf("%s: Check is %d, not %d", c.what, got, c.want)
		}
	}
}

// ask is what is asked of a group, by all three.
type ask struct {
	e       api.Entry
	node, n int
	cut     int
}

func wantErrors(t *testing.T, what string, g api.Group, a ask, put, run, cut api.Errno) {
	x, n, e := Put(g, a.e)
	if e != put || e != api.OK && (!reflect.DeepEqual(x, api.Group{}) || n != 0) {
		t.Errorf("%s: Put is %v %d %d, not error %d", what, x, n, e, put)
	}
	x, n, e = Run(g, a.node, a.n)
	if e != run || e != api.OK && (!reflect.DeepEqual(x, api.Group{}) || n != 0) {
		t.Errorf("%s: Run is %v %d %d, not error %d", what, x, n, e, run)
	}
	x, e = Cut(g, a.cut)
	if e != cut || e != api.OK && !reflect.DeepEqual(x, api.Group{}) {
		t.Errorf("%s: Cut is %v %d, not error %d", what, x, e, cut)
	}
}

// J1 and P1: the others tell Check's errors first, and nothing with them.
func TestCheckFirst(t *testing.T) {
	for _, c := range groupCases() {
		if c.want == api.OK {
			continue
		}
		g := turned(club(3, 3, 6, 2), c.turn)
		wantErrors(t, c.what, g, ask{open(1, 1), 0, 1, 0}, c.want, c.want, c.want)
		wantErrors(t, c.what+", and more", g, ask{api.Entry{}, 3, -1, -1}, c.want, c.want, c.want)
	}
}

// J1: errors of a right group: pack.Put's, node.Run's, pack.Cut's, and that there is no such node.
func TestErrors(t *testing.T) {
	g := club(3, 3, 6, 2)
	full := api.Group{Log: api.Log{Base: api.State{At: 10}, Tail: many(40)}}
	for _, c := range []struct {
		what          string
		g             api.Group
		a             ask
		put, run, cut api.Errno
	}{
		{"least", g, ask{open(0, 1), 0, 0, 0}, api.OK, api.OK, api.OK},
		{"greatest", g, ask{open(999, 5), 2, 50, 7}, api.OK, api.OK, api.OK},
		{"below", g, ask{open(-1, 1), -1, 1, -1}, api.ErrRange, api.ErrRange, api.ErrRange},
		{"above", g, ask{open(1000, 1), 3, 1, 8}, api.ErrRange, api.ErrRange, api.ErrRange},
		{"too few to run", g, ask{api.Entry{Kind: 4}, 1, -1, 10}, api.ErrKind, api.ErrRange, api.ErrRange},
		{"too many to run", g, ask{api.Entry{Kind: api.Open, Client: 1, Ack: 1}, 1, 51, 50}, api.ErrForm, api.ErrRange, api.ErrRange},
		{"far below", g, ask{call(1, 1, 1, 0, api.Op{}), math.MinInt, 1, math.MinInt}, api.ErrKind, api.ErrRange, api.ErrRange},
		{"far above", g, ask{call(1, 1, 61, 0, add(1)), math.MaxInt, 1, math.MaxInt}, api.ErrRange, api.ErrRange, api.ErrRange},
		{"no such node, and no such number", g, ask{open(1, 6), 3, 51, 9}, api.ErrRange, api.ErrRange, api.ErrRange},
		{"of nothing", Begin(), ask{open(1, 1), 0, 1, 1}, api.OK, api.OK, api.ErrRange},
		{"no room", full, ask{open(1, 1), 0, 50, 40}, api.ErrMany, api.OK, api.OK},
		{"no room, and a wrong entry", full, ask{api.Entry{}, 0, 1, 41}, api.ErrKind, api.OK, api.ErrRange},
	} {
		wantErrors(t, c.what, c.g, c.a, c.put, c.run, c.cut)
	}
}

// J1: Put changes the log alone.
func TestPut(t *testing.T) {
	e := call(43, 1, 2, 1, add(1))
	for cut := range 11 {
		g := club(cut, 3, 10, 0)
		want := turned(g, func(g *api.Group) { g.Log.Tail = append(ten()[cut:], e) })
		got, answer, f := Put(g, e)
		if !same(got, want) || answer != 13 || f != api.OK {
			t.Errorf("cut behind %d: %v %d %d", cut, got, answer, f)
		}
	}
}

// J1: Run changes that node alone.
func TestRun(t *testing.T) {
	for node, from := range []int{3, 6, 3} {
		for n := range 12 {
			to := min(10, from+n)
			want := turned(club(3, 3, 6, 2), func(g *api.Group) { g.Nodes[node] = at(to) })
			got, many, e := Run(club(3, 3, 6, 2), node, n)
			if !same(got, want) || many != to-from || e != api.OK {
				t.Errorf("node %d, %d at most: %v %d %d", node, n, got, many, e)
			}
		}
	}
}

// J1: Cut changes the log alone; behind entries that nodes have not applied, too.
func TestCut(t *testing.T) {
	for n := range 8 {
		want := turned(club(3, 3, 6, 2), func(g *api.Group) { g.Log = api.Log{Base: at(3 + n), Tail: ten()[3+n:]} })
		got, e := Cut(club(3, 3, 6, 2), n)
		if !same(got, want) || e != api.OK {
			t.Errorf("%d: %v %d", n, got, e)
		}
	}
}

// J1: example 10: behind two entries node 1 has 5.
func TestTwoEntries(t *testing.T) {
	g := Begin()
	for _, e := range ten()[:2] {
		g, _, _ = Put(g, e)
	}
	g, n, e := Run(g, 1, 9)
	if n != 2 || e != api.OK || g.Nodes[1].Vals[0] != 5 || !state.Same(g.Nodes[0], state.Begin()) || !state.Same(g.Nodes[2], state.Begin()) {
		t.Errorf("it is %v %d %d", g, n, e)
	}
}
