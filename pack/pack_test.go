package pack

import (
	"math"
	"reflect"
	"slices"
	"testing"

	"portage/api"
	"portage/state"
)

func add(n int) api.Op { return api.Op{Kind: api.Add, N: n} }

func open(time, client int) api.Entry {
	return api.Entry{Kind: api.Open, Time: time, Client: client}
}

func call(time, client, seq, ack int, x api.Op) api.Entry {
	return api.Entry{Kind: api.Call, Time: time, Client: client, Seq: seq, Ack: ack, Op: x}
}

// ten entries, and the state behind each number of them.
func ten() []api.Entry {
	return []api.Entry{
		open(1, 1), call(2, 1, 1, 0, add(5)), call(3, 1, 1, 0, add(5)), call(4, 2, 1, 0, add(7)), open(4, 2),
		call(5, 1, 2, 1, api.Op{Kind: api.Move, To: 1, N: 2}), call(6, 1, 1, 0, add(5)), call(40, 1, 2, 1, add(1)), open(41, 1), call(42, 1, 1, 0, add(9)),
	}
}

func tenStates() []api.State {
	five, three, twelve := [api.Keys]int{5}, [api.Keys]int{3, 2}, [api.Keys]int{12, 2}
	one := func(seen, acked int, kept ...api.Reply) api.Session {
		return api.Session{Client: 1, Acked: acked, Seen: seen, Kept: kept}
	}
	first, second, two := api.Reply{Seq: 1, Val: 5}, api.Reply{Seq: 2, Val: 3}, api.Session{Client: 2, Seen: 4}
	return []api.State{
		{},
		{At: 1, Clock: 1, Table: []api.Session{one(1, 0)}},
		{At: 2, Clock: 2, Vals: five, Table: []api.Session{one(2, 0, first)}},
		{At: 3, Clock: 3, Vals: five, Table: []api.Session{one(3, 0, first)}},
		{At: 4, Clock: 4, Vals: five, Table: []api.Session{one(3, 0, first)}},
		{At: 5, Clock: 4, Vals: five, Table: []api.Session{one(3, 0, first), two}},
		{At: 6, Clock: 5, Vals: three, Table: []api.Session{one(5, 1, second), two}},
		{At: 7, Clock: 6, Vals: three, Table: []api.Session{one(6, 1, second), two}},
		{At: 8, Clock: 40, Vals: three},
		{At: 9, Clock: 41, Vals: three, Table: []api.Session{one(41, 0)}},
		{At: 10, Clock: 42, Vals: twelve, Table: []api.Session{one(42, 0, api.Reply{Seq: 1, Val: 12})}},
	}
}

// many has so many entries, each right.
func many(n int) []api.Entry { return slices.Repeat([]api.Entry{open(1, 1)}, n) }

type logCase struct {
	what string
	l    api.Log
	want api.Errno
}

func logCases() []logCase {
	noKind, noTime, noForm := api.Entry{}, open(-1, 1), api.Entry{Kind: api.Open, Client: 1, Seq: 1}
	twice := api.State{Table: []api.Session{{Client: 1}, {Client: 1}}}
	four := api.State{Table: []api.Session{{Client: 1}, {Client: 2}, {Client: 3}, {Client: 4}}}
	return []logCase{
		{"nothing", api.Log{}, api.OK},
		{"an empty list", api.Log{Tail: []api.Entry{}}, api.OK},
		{"ten", api.Log{Tail: ten()}, api.OK},
		{"a base", api.Log{Base: tenStates()[6]}, api.OK},
		{"a base, and entries", api.Log{Base: tenStates()[6], Tail: ten()[6:]}, api.OK},
		{"all there may be, behind the beginning", api.Log{Tail: many(50)}, api.OK},
		{"all there may be, packed", api.Log{Base: api.State{At: 50}}, api.OK},
		{"all there may be, some packed", api.Log{Base: api.State{At: 20}, Tail: many(30)}, api.OK},
		{"too many", api.Log{Tail: many(51)}, api.ErrMany},
		{"one too many behind all packed", api.Log{Base: api.State{At: 50}, Tail: many(1)}, api.ErrMany},
		{"one too many, all but one not packed", api.Log{Base: api.State{At: 1}, Tail: many(50)}, api.ErrMany},
		{"one too many, some packed", api.Log{Base: api.State{At: 20}, Tail: many(31)}, api.ErrMany},
		{"base's at below", api.Log{Base: api.State{At: -1}}, api.ErrRange},
		{"base's at above", api.Log{Base: api.State{At: 51}}, api.ErrRange},
		{"base's at least", api.Log{Base: api.State{At: math.MinInt}, Tail: many(50)}, api.ErrRange},
		{"base's at greatest", api.Log{Base: api.State{At: math.MaxInt}, Tail: many(50)}, api.ErrRange},
		{"base's sessions twice", api.Log{Base: twice}, api.ErrForm},
		{"base's sessions too many", api.Log{Base: four}, api.ErrMany},
		{"no kind", api.Log{Tail: []api.Entry{open(1, 1), noKind}}, api.ErrKind},
		{"no time", api.Log{Tail: []api.Entry{noTime, open(1, 1)}}, api.ErrRange},
		{"not empty", api.Log{Tail: []api.Entry{noForm}}, api.ErrForm},
		{"no op", api.Log{Tail: []api.Entry{open(1, 1), call(1, 1, 1, 0, api.Op{Kind: 9})}}, api.ErrKind},
		{"the base ahead of entries", api.Log{Base: twice, Tail: []api.Entry{noKind}}, api.ErrForm},
		{"the base ahead of how many", api.Log{Base: api.State{At: 51}, Tail: many(51)}, api.ErrRange},
		{"the base's many ahead of entries", api.Log{Base: four, Tail: []api.Entry{noKind}}, api.ErrMany},
		{"how many ahead of entries", api.Log{Tail: make([]api.Entry, 51)}, api.ErrMany},
		{"entries ahead of how many in all", api.Log{Base: api.State{At: 50}, Tail: []api.Entry{noForm}}, api.ErrForm},
		{"the first entry's error", api.Log{Tail: []api.Entry{noTime, noKind, noForm}}, api.ErrRange},
	}
}

// H1: Check.
func TestCheck(t *testing.T) {
	for _, c := range logCases() {
		if got := Check(c.l); got != c.want {
			t.Errorf("%s: Check is %d, not %d", c.what, got, c.want)
		}
	}
}

// wantErrors asks all three others; the last two with what may have errors of its own.
func wantErrors(t *testing.T, what string, l api.Log, n int, e api.Entry, end, cut, put api.Errno) {
	s, f := End(l)
	if f != end || f != api.OK && !reflect.DeepEqual(s, api.State{}) {
		t.Errorf("%s: End is %v %d, not error %d", what, s, f, end)
	}
	x, f := Cut(l, n)
	if f != cut || f != api.OK && !reflect.DeepEqual(x, api.Log{}) {
		t.Errorf("%s: Cut is %v %d, not error %d", what, x, f, cut)
	}
	x, answer, f := Put(l, e)
	if f != put || f != api.OK && (!reflect.DeepEqual(x, api.Log{}) || answer != 0) {
		t.Errorf("%s: Put is %v %d %d, not error %d", what, x, answer, f, put)
	}
}

// H1 and P1: the others tell Check's errors first, and nothing with them.
func TestCheckFirst(t *testing.T) {
	for _, c := range logCases() {
		if c.want == api.OK {
			continue
		}
		wantErrors(t, c.what, c.l, 0, open(1, 1), c.want, c.want, c.want)
		wantErrors(t, c.what+", and more", c.l, -1, api.Entry{}, c.want, c.want, c.want)
	}
}

// H1: errors of a right log: where there is no such place to cut, and of entries that can't be put.
func TestErrors(t *testing.T) {
	base := api.Log{Base: tenStates()[6], Tail: ten()[6:]}
	for _, c := range []struct {
		what string
		l    api.Log
		n    int
		e    api.Entry
		cut  api.Errno
		put  api.Errno
	}{
		{"at the first place", base, 0, open(0, 1), api.OK, api.OK},
		{"at the last place", base, 4, open(999, 5), api.OK, api.OK},
		{"ahead of the first", base, -1, api.Entry{}, api.ErrRange, api.ErrKind},
		{"behind the last", base, 5, open(1000, 1), api.ErrRange, api.ErrRange},
		{"at the last one's number, counted from the beginning", base, 10, call(1, 1, 1, 1, add(1)), api.ErrRange, api.ErrRange},
		{"least", base, math.MinInt, call(1, 1, 1, 0, api.Op{Kind: 5}), api.ErrRange, api.ErrKind},
		{"greatest", base, math.MaxInt, call(1, 1, 1, 0, add(1000)), api.ErrRange, api.ErrRange},
		{"of nothing", api.Log{}, 0, api.Entry{Kind: api.Close, Client: 1, Ack: 1}, api.OK, api.ErrForm},
		{"one more than nothing", api.Log{}, 1, open(1, 6), api.ErrRange, api.ErrRange},
		{"room for one", api.Log{Tail: many(49)}, 49, open(1, 1), api.OK, api.OK},
		{"room for one, some packed", api.Log{Base: api.State{At: 40}, Tail: many(9)}, 9, open(1, 1), api.OK, api.OK},
		{"room for one, all packed", api.Log{Base: api.State{At: 49}}, 0, open(1, 1), api.OK, api.OK},
		{"no room", api.Log{Tail: many(50)}, 50, open(1, 1), api.OK, api.ErrMany},
		{"no room, some packed", api.Log{Base: api.State{At: 40}, Tail: many(10)}, 11, open(1, 1), api.ErrRange, api.ErrMany},
		{"no room, all packed", api.Log{Base: api.State{At: 50}}, 0, open(1, 1), api.OK, api.ErrMany},
		{"no room, and a wrong entry", api.Log{Tail: many(50)}, 51, api.Entry{}, api.ErrRange, api.ErrKind},
		{"no room, and an entry out of bounds", api.Log{Base: api.State{At: 50}}, 1, open(-1, 1), api.ErrRange, api.ErrRange},
	} {
		wantErrors(t, c.what, c.l, c.n, c.e, api.OK, c.cut, c.put)
	}
}

// H1: Cut and End, of example 5's entries: cut anywhere, and anywhere again.
func TestCut(t *testing.T) {
	states := tenStates()
	for n := range 11 {
		first, e := Cut(api.Log{Tail: ten()}, n)
		wantLog(t, first, e, states[n], ten()[n:])
		for k := range 11 - n {
			second, e := Cut(first, k)
			wantLog(t, second, e, states[n+k], ten()[n+k:])
		}
	}
}

func wantLog(t *testing.T, l api.Log, e api.Errno, base api.State, tail []api.Entry) {
	t.Helper()
	if !state.Same(l.Base, base) || !slices.Equal(l.Tail, tail) || e != api.OK {
		t.Errorf("it is %v %d, not %v %v", l, e, base, tail)
	}
	if end, e := End(l); !state.Same(end, tenStates()[10]) || e != api.OK {
		t.Errorf("the end of %v is %v %d", l, end, e)
	}
}

// H1: Put, of example 8: cut behind six, and put: 13; and cut elsewhere it is the same.
func TestPut(t *testing.T) {
	e := call(43, 1, 2, 1, add(1))
	for n := range 11 {
		l := api.Log{Base: tenStates()[n], Tail: ten()[n:]}
		got, answer, f := Put(l, e)
		if !state.Same(got.Base, l.Base) || !slices.Equal(got.Tail, append(ten()[n:], e)) || answer != 13 || f != api.OK {
			t.Errorf("cut behind %d: Put is %v %d %d", n, got, answer, f)
		}
	}
}

// H1: each entry that is put has the answer of its place, though it be no value.
func TestPutAll(t *testing.T) {
	var l api.Log
	want := []int{0, 5, 5, -3, 0, 3, -4, -3, 0, 12}
	for i, e := range ten() {
		longer, answer, f := Put(l, e)
		if answer != want[i] || f != api.OK {
			t.Errorf("entry %d: %d %d", i, answer, f)
		}
		if !state.Same(longer.Base, state.Begin()) || !slices.Equal(longer.Tail, ten()[:i+1]) {
			t.Errorf("entry %d: %v", i, longer)
		}
		l = longer
	}
}

// H1: Full, Far and Fail are answers, and no errors.
func TestPutAnswers(t *testing.T) {
	full := api.State{At: 9, Table: []api.Session{{Client: 1}, {Client: 2}, {Client: 3, Kept: []api.Reply{{Seq: 2, Val: api.Fail}}}}}
	for _, c := range []struct {
		e    api.Entry
		want int
	}{
		{open(0, 4), api.Full},
		{open(21, 4), 0},
		{call(0, 4, 1, 0, add(1)), api.Lost},
		{call(0, 1, 4, 0, add(1)), api.Far},
		{call(0, 1, 1, 0, add(-1)), api.Fail},
		{call(0, 3, 2, 0, add(1)), api.Fail},
		{call(0, 3, 3, 2, add(1)), 1},
		{call(0, 3, 3, 2, api.Op{Kind: api.Get, Key: 3}), 0},
	} {
		l, answer, e := Put(api.Log{Base: full}, c.e)
		if answer != c.want || e != api.OK || !state.Same(l.Base, full) || !slices.Equal(l.Tail, []api.Entry{c.e}) {
			t.Errorf("Put of %v is %v %d %d, not answer %d", c.e, l, answer, e, c.want)
		}
	}
}
