package node

import (
	"math"
	"reflect"
	"slices"
	"testing"

	"portage/api"
	"portage/fold"
	"portage/pack"
	"portage/state"
)

func add(n int) api.Op { return api.Op{Kind: api.Add, N: n} }

func open(time, client int) api.Entry {
	return api.Entry{Kind: api.Open, Time: time, Client: client}
}

func call(time, client, seq, ack int, x api.Op) api.Entry {
	return api.Entry{Kind: api.Call, Time: time, Client: client, Seq: seq, Ack: ack, Op: x}
}

// ten entries; each one changes the state otherwise.
func ten() []api.Entry {
	return []api.Entry{
		open(1, 1), call(2, 1, 1, 0, add(5)), call(3, 1, 1, 0, add(5)), call(4, 2, 1, 0, add(7)), open(4, 2),
		call(5, 1, 2, 1, api.Op{Kind: api.Move, To: 1, N: 2}), call(6, 1, 1, 0, add(5)), call(40, 1, 2, 1, add(1)), open(41, 1), call(42, 1, 1, 0, add(9)),
	}
}

// at is the state behind so many of them; cut is a log of them all that is cut there.
func at(n int) api.State {
	s, _, _ := fold.All(state.Begin(), ten()[:n])
	return s
}

func cut(n int) api.Log { return api.Log{Base: at(n), Tail: ten()[n:]} }

// many has so many entries, each right.
func many(n int) []api.Entry { return slices.Repeat([]api.Entry{open(1, 1)}, n) }

func twice() api.State {
	return api.State{Table: []api.Session{{Client: 1}, {Client: 1}}}
}

func four() api.State {
	return api.State{Table: []api.Session{{Client: 1}, {Client: 2}, {Client: 3}, {Client: 4}}}
}

func wantError(t *testing.T, what string, l api.Log, s api.State, n int, fits, run api.Errno) {
	is, e := Fits(l, s)
	if e != fits || e != api.OK && is {
		t.Errorf("%s: Fits is %v %d, not error %d", what, is, e, fits)
	}
	then, k, e := Run(l, s, n)
	if e != run || e != api.OK && (!reflect.DeepEqual(then, api.State{}) || k != 0) {
		t.Errorf("%s: Run is %v %d %d, not error %d", what, then, k, e, run)
	}
}

// I1 and P1: errors of both: the log's, then the state's; then of Run alone: the number's, then that it doesn't fit; and nothing with them.
func TestErrors(t *testing.T) {
	kind, form := api.Log{Tail: []api.Entry{{}}}, api.Log{Base: twice()}
	for _, c := range []struct {
		what string
		l    api.Log
		s    api.State
		n    int
		fits api.Errno
		run  api.Errno
	}{
		{"nothing", api.Log{}, state.Begin(), 0, api.OK, api.OK},
		{"at most", api.Log{}, state.Begin(), 50, api.OK, api.OK},
		{"less than nothing", api.Log{}, state.Begin(), -1, api.OK, api.ErrRange},
		{"more than there may be", api.Log{}, state.Begin(), 51, api.OK, api.ErrRange},
		{"least", cut(3), at(5), math.MinInt, api.OK, api.ErrRange},
		{"greatest", cut(3), at(5), math.MaxInt, api.OK, api.ErrRange},
		{"least, of one that takes the base", cut(3), at(2), math.MinInt, api.OK, api.ErrRange},
		{"it doesn't fit", cut(3), api.State{At: 5}, 1, api.OK, api.ErrForm},
		{"it doesn't fit, and none is asked for", cut(3), api.State{At: 5}, 0, api.OK, api.ErrForm},
		{"the number ahead of the fit", cut(3), api.State{At: 5}, 51, api.OK, api.ErrRange},

		{"the log's range", api.Log{Base: api.State{At: 51}}, at(3), 1, api.ErrRange, api.ErrRange},
		{"the log's form", form, at(3), 1, api.ErrForm, api.ErrForm},
		{"the log's kind", kind, at(3), 1, api.ErrKind, api.ErrKind},
		{"the log's many", api.Log{Base: api.State{At: 50}, Tail: many(1)}, at(3), 1, api.ErrMany, api.ErrMany},
		{"the state's range", cut(3), api.State{At: -1}, 1, api.ErrRange, api.ErrRange},
		{"the state's at above", cut(3), api.State{At: 51}, 1, api.ErrRange, api.ErrRange},
		{"the state's form, behind the base", cut(3), twice(), 1, api.ErrForm, api.ErrForm},
		{"the state's many, behind the base", cut(3), four(), 1, api.ErrMany, api.ErrMany},
		{"the state's many, at the base", cut(0), four(), 1, api.ErrMany, api.ErrMany},

		{"the log's form ahead of the state's many", form, four(), -1, api.ErrForm, api.ErrForm},
		{"the log's kind ahead of the state's range", kind, api.State{At: 51}, 51, api.ErrKind, api.ErrKind},
		{"the log's kind ahead of the number", kind, at(3), -1, api.ErrKind, api.ErrKind},
		{"the state's many ahead of the number", cut(3), four(), -1, api.ErrMany, api.ErrMany},
		{"the state's form ahead of the number", cut(3), twice(), 51, api.ErrForm, api.ErrForm},
		{"the state's many ahead of the fit", cut(0), api.State{At: 3, Table: four().Table}, 1, api.ErrMany, api.ErrMany},
	} {
		wantError(t, c.what, c.l, c.s, c.n, c.fits, c.run)
	}
}

// I1: Fits: each state of the log fits, wherever it is cut.
func TestFits(t *testing.T) {
	for n := range 11 {
		for k := range 11 {
			if is, e := Fits(cut(n), at(k)); !is || e != api.OK {
				t.Errorf("cut behind %d, the state behind %d: %v %d", n, k, is, e)
			}
		}
	}
}

// I1: a state that lacks entries of the log's base fits, whatever it has; any other has to be as the log says, each field of it.
func TestFitsOnlyThat(t *testing.T) {
	turns := []func(s *api.State){
		func(s *api.State) { s.Clock++ },
		func(s *api.State) { s.Vals[0]++ },
		func(s *api.State) { s.Vals[3]++ },
		func(s *api.State) { s.Table = nil },
		func(s *api.State) { s.Table = s.Table[:1] },
		func(s *api.State) { s.Table = append(s.Table, api.Session{Client: 5, Seen: s.Clock}) },
		func(s *api.State) { s.Table[1].Client = 3 },
		func(s *api.State) { s.Table[1].Acked = 1 },
		func(s *api.State) { s.Table[0].Seen-- },
		func(s *api.State) { s.Table[0].Kept = nil },
		func(s *api.State) { s.Table[0].Kept[0].Val = 4 },
		func(s *api.State) { s.Table[0].Kept[0].Seq = 3 },
	}
	for i, turn := range turns {
		s := at(6)
		turn(&s)
		for n := range 11 {
			if is, e := Fits(cut(n), s); is != (n > 6) || e != api.OK {
				t.Errorf("turn %d, cut behind %d: %v %d", i, n, is, e)
			}
		}
	}
}

// I1: another number of entries doesn't fit, though all else does, nor more than there are.
func TestFitsNumber(t *testing.T) {
	for _, c := range []struct {
		what string
		l    api.Log
		s    api.State
		want bool
	}{
		{"one less", cut(2), api.State{At: 5, Clock: 5, Vals: at(6).Vals, Table: at(6).Table}, false},
		{"the end", cut(10), at(10), true},
		{"one behind the end", cut(10), api.State{At: 11, Clock: 42, Vals: at(10).Vals, Table: at(10).Table}, false},
		{"one behind the end, nothing packed", cut(0), api.State{At: 11, Clock: 42, Vals: at(10).Vals, Table: at(10).Table}, false},
		{"the last there may be", api.Log{Base: api.State{At: 50}}, api.State{At: 50}, true},
		{"the last there may be, of a shorter log", api.Log{Base: api.State{At: 49}}, api.State{At: 50}, false},
		{"the last there may be, of nothing", api.Log{}, api.State{At: 50}, false},
		{"one less than the base", api.Log{Base: api.State{At: 50}}, api.State{At: 49, Clock: 999, Vals: [api.Keys]int{1, 2, 3, 4}}, true},
		{"a base that no entries lead to", api.Log{Base: api.State{At: 9, Vals: [api.Keys]int{7}}, Tail: many(3)}, api.State{At: 9, Vals: [api.Keys]int{7}}, true},
		{"and another one of that number", api.Log{Base: api.State{At: 9, Vals: [api.Keys]int{7}}, Tail: many(3)}, api.State{At: 9, Vals: [api.Keys]int{8}}, false},
		{"a clock ahead of the base's", cut(3), api.State{At: 2, Clock: 999}, true},
	} {
		if is, e := Fits(c.l, c.s); is != c.want || e != api.OK {
			t.Errorf("%s: %v %d", c.what, is, e)
		}
	}
}

// P2: lists without elements fit alike, nil or not.
func TestFitsEmpty(t *testing.T) {
	none, empty := api.State{At: 1, Clock: 1, Table: []api.Session{{Client: 1, Seen: 1}}}, api.State{At: 1, Clock: 1, Table: []api.Session{{Client: 1, Seen: 1, Kept: []api.Reply{}}}}
	for _, s := range []api.State{none, empty} {
		for _, l := range []api.Log{cut(0), {Base: none}, {Base: empty, Tail: []api.Entry{}}} {
			if is, e := Fits(l, s); !is || e != api.OK {
				t.Errorf("of %v: %v fits is %v %d", l, s, is, e)
			}
		}
	}
}

// I1: Run, wherever the log is cut, whatever the node has, and however many it is to apply.
func TestRun(t *testing.T) {
	for c := range 11 {
		for k := range 11 {
			for n := range 13 {
				from := max(c, k)
				to := min(10, from+n)
				s, many, e := Run(cut(c), at(k), n)
				if !state.Same(s, at(to)) || many != to-from || e != api.OK {
					t.Errorf("cut behind %d, of a node at %d, %d at most: %v %d %d", c, k, n, s, many, e)
				}
			}
		}
	}
}

// I1: example 9: who begins anew takes the packed state, and applies two.
func TestRunAnew(t *testing.T) {
	s, n, e := Run(cut(8), state.Begin(), 50)
	if !state.Same(s, at(10)) || n != 2 || e != api.OK {
		t.Errorf("it is %v %d %d", s, n, e)
	}
	s, n, e = Run(cut(8), state.Begin(), 0)
	if !state.Same(s, at(8)) || n != 0 || e != api.OK {
		t.Errorf("and when none is asked for %v %d %d", s, n, e)
	}
}

// I1: nothing is left of a node that takes the base, whatever it had.
func TestRunTakesBase(t *testing.T) {
	old := api.State{At: 5, Clock: 999, Vals: [api.Keys]int{999, 1, 2, 3}, Table: []api.Session{{Client: 5, Seen: 990}}}
	s, n, e := Run(cut(6), old, 1)
	if !state.Same(s, at(7)) || n != 1 || e != api.OK {
		t.Errorf("it is %v %d %d", s, n, e)
	}
}

// I1: as many as there may be.
func TestRunMost(t *testing.T) {
	s, n, e := Run(api.Log{Tail: many(50)}, state.Begin(), 50)
	if s.At != 50 || n != 50 || e != api.OK {
		t.Errorf("it is %v %d %d", s, n, e)
	}
	s, n, e = Run(api.Log{Base: api.State{At: 50}}, state.Begin(), 50)
	if !state.Same(s, api.State{At: 50}) || n != 0 || e != api.OK {
		t.Errorf("all packed, it is %v %d %d", s, n, e)
	}
}

func wantSame(t *testing.T, what string, got, want api.State) {
	t.Helper()
	if !state.Same(got, want) {
		t.Fatalf("%s is %v, not %v", what, got, want)
	}
}

// I2: the end is what pack has.
func TestRunToEnd(t *testing.T) {
	for c := range 11 {
		end, _ := pack.End(cut(c))
		for k := range 11 {
			s, _, _ := Run(cut(c), at(k), 10)
			wantSame(t, "what ran to the end", s, end)
		}
	}
}
