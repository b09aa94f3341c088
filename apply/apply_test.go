package apply

import (
	"math"
	"reflect"
	"testing"

	"portage/api"
	"portage/state"
)

func add(n int) api.Op { return api.Op{Kind: api.Add, N: n} }

func open(time, client int) api.Entry {
	return api.Entry{Kind: api.Open, Time: time, Client: client}
}

func shut(time, client int) api.Entry {
	return api.Entry{Kind: api.Close, Time: time, Client: client}
}

func call(time, client, seq, ack int, x api.Op) api.Entry {
	return api.Entry{Kind: api.Call, Time: time, Client: client, Seq: seq, Ack: ack, Op: x}
}

// row is a session that keeps 3 and 5; shop is a state with two of them.
func row(client int) api.Session {
	return session(client, 2, 30, api.Reply{Seq: 3, Val: 7}, api.Reply{Seq: 5, Val: api.Fail})
}

func session(client, acked, seen int, kept ...api.Reply) api.Session {
	return api.Session{Client: client, Acked: acked, Seen: seen, Kept: kept}
}

func shop() api.State { return shopOf(row(2), row(4)) }

func shopOf(l ...api.Session) api.State {
	return api.State{At: 6, Clock: 40, Vals: [api.Keys]int{7, 0, 0, 1}, Table: l}
}

type checkCase struct {
	what string
	e    api.Entry
	want api.Errno
}

// turned is an entry of a Call that was changed.
func turned(what string, want api.Errno, turn func(e *api.Entry)) checkCase {
	e := call(41, 2, 4, 2, add(3))
	turn(&e)
	return checkCase{what, e, want}
}

// bare is an Open that was changed; shutter the like of Close.
func bare(what string, want api.Errno, turn func(e *api.Entry)) checkCase {
	e := open(41, 2)
	turn(&e)
	return checkCase{what, e, want}
}

func shutter(what string, want api.Errno, turn func(e *api.Entry)) checkCase {
	e := shut(41, 2)
	turn(&e)
	return checkCase{what, e, want}
}

func checkCases() []checkCase {
	return append(orderCases(),
		turned("a call", api.OK, func(e *api.Entry) {}),
		bare("an open", api.OK, func(e *api.Entry) {}),
		shutter("a close", api.OK, func(e *api.Entry) {}),
		turned("kind 0", api.ErrKind, func(e *api.Entry) { e.Kind = 0 }),
		turned("kind above", api.ErrKind, func(e *api.Entry) { e.Kind = 4 }),
		turned("kind below", api.ErrKind, func(e *api.Entry) { e.Kind = -1 }),
		turned("least kind", api.ErrKind, func(e *api.Entry) { e.Kind = math.MinInt }),
		turned("greatest kind", api.ErrKind, func(e *api.Entry) { e.Kind = math.MaxInt }),

		turned("time 0", api.OK, func(e *api.Entry) { e.Time = 0 }),
		turned("time below", api.ErrRange, func(e *api.Entry) { e.Time = -1 }),
		turned("time greatest", api.OK, func(e *api.Entry) { e.Time = 999 }),
		turned("time above", api.ErrRange, func(e *api.Entry) { e.Time = 1000 }),
		bare("open: time below", api.ErrRange, func(e *api.Entry) { e.Time = -1 }),
		shutter("close: time above", api.ErrRange, func(e *api.Entry) { e.Time = 1000 }),
		turned("first client", api.OK, func(e *api.Entry) { e.Client = 1 }),
		turned("client below", api.ErrRange, func(e *api.Entry) { e.Client = 0 }),
		turned("last client", api.OK, func(e *api.Entry) { e.Client = 5 }),
		turned("client above", api.ErrRange, func(e *api.Entry) { e.Client = 6 }),
		bare("open: client above", api.ErrRange, func(e *api.Entry) { e.Client = 6 }),
		shutter("close: client below", api.ErrRange, func(e *api.Entry) { e.Client = 0 }),

		turned("first number", api.OK, func(e *api.Entry) { e.Seq, e.Ack = 1, 0 }),
		turned("number below", api.ErrRange, func(e *api.Entry) { e.Seq, e.Ack = 0, 0 }),
		turned("number below, ack below it", api.ErrRange, func(e *api.Entry) { e.Seq, e.Ack = 0, -1 }),
		turned("least number", api.ErrRange, func(e *api.Entry) { e.Seq = math.MinInt }),
		turned("last number", api.OK, func(e *api.Entry) { e.Seq = 60 }),
		turned("number above", api.ErrRange, func(e *api.Entry) { e.Seq = 61 }),
		turned("ack 0", api.OK, func(e *api.Entry) { e.Ack = 0 }),
		turned("ack below", api.ErrRange, func(e *api.Entry) { e.Ack = -1 }),
		turned("ack just ahead", api.OK, func(e *api.Entry) { e.Ack = 3 }),
		turned("ack of itself", api.ErrRange, func(e *api.Entry) { e.Ack = 4 }),
		turned("ack of the last number but one", api.OK, func(e *api.Entry) { e.Seq, e.Ack = 60, 59 }),
		turned("greatest ack", api.ErrRange, func(e *api.Entry) { e.Ack = math.MaxInt }),

		turned("no op", api.ErrKind, func(e *api.Entry) { e.Op = api.Op{} }),
		turned("op's range", api.ErrRange, func(e *api.Entry) { e.Op.Key = 4 }),
		turned("op's form", api.ErrForm, func(e *api.Entry) { e.Op.To = 1 }),

		bare("open: a number", api.ErrForm, func(e *api.Entry) { e.Seq = 1 }),
		bare("open: a number that is none", api.ErrForm, func(e *api.Entry) { e.Seq = 61 }),
		bare("open: an ack", api.ErrForm, func(e *api.Entry) { e.Ack = -1 }),
		bare("open: an op", api.ErrForm, func(e *api.Entry) { e.Op = add(1) }),
		bare("open: a key alone", api.ErrForm, func(e *api.Entry) { e.Op.Key = 1 }),
		bare("open: a to alone", api.ErrForm, func(e *api.Entry) { e.Op.To = 9 }),
		bare("open: an n alone", api.ErrForm, func(e *api.Entry) { e.Op.N = -1 }),
		shutter("close: a number", api.ErrForm, func(e *api.Entry) { e.Seq = 1 }),
		shutter("close: an ack", api.ErrForm, func(e *api.Entry) { e.Ack = 1 }),
		shutter("close: an op", api.ErrForm, func(e *api.Entry) { e.Op = api.Op{Kind: api.Get} }),
	)
}

// orderCases have several errors; the one that D1 names first is told.
func orderCases() []checkCase {
	return []checkCase{
		turned("kind ahead of range", api.ErrKind, func(e *api.Entry) { e.Kind, e.Time = 4, -1 }),
		turned("kind ahead of form", api.ErrKind, func(e *api.Entry) { e.Kind, e.Op.To = 0, 1 }),
		turned("range of time ahead of the op's kind", api.ErrRange, func(e *api.Entry) { e.Time, e.Op.Kind = -1, 0 }),
		turned("range of client ahead of the op's form", api.ErrRange, func(e *api.Entry) { e.Client, e.Op.To = 6, 1 }),
		turned("range of number ahead of the op's kind", api.ErrRange, func(e *api.Entry) { e.Seq, e.Op.Kind = 61, 5 }),
		turned("range of ack ahead of the op's kind", api.ErrRange, func(e *api.Entry) { e.Ack, e.Op.Kind = 4, 5 }),
		turned("op's kind ahead of its range", api.ErrKind, func(e *api.Entry) { e.Op = api.Op{Kind: 5, Key: 9} }),
		turned("op's range ahead of its form", api.ErrRange, func(e *api.Entry) { e.Op = api.Op{Kind: api.Get, Key: 9, N: 1} }),
		bare("open: range ahead of form", api.ErrRange, func(e *api.Entry) { e.Time, e.Seq = 1000, 1 }),
		shutter("close: range ahead of form", api.ErrRange, func(e *api.Entry) { e.Client, e.Op.N = 0, 1 }),
	}
}

// D1: Check; and D2: One tells its errors, and nothing with them.
func TestCheck(t *testing.T) {
	for _, c := range checkCases() {
		if got := Check(c.e); got != c.want {
			t.Errorf("%s: Check is %d, not %d", c.what, got, c.want)
		}
		s, n, is, e := One(shop(), c.e)
		if e != c.want {
			t.Errorf("%s: One has error %d, not %d", c.what, e, c.want)
		}
		if e != api.OK && (!reflect.DeepEqual(s, api.State{}) || n != 0 || is) {
			t.Errorf("%s: One has error %d, and %v %d %v", c.what, e, s, n, is)
		}
	}
}

// D2 and P1: the state's errors come first, then the entry's, then that there are too many.
func TestOneErrors(t *testing.T) {
	right, wrong := call(41, 2, 4, 2, add(3)), api.Entry{}
	for _, c := range []struct {
		what string
		turn func(s *api.State)
		e    api.Entry
		want api.Errno
	}{
		{"the last there may be", func(s *api.State) { s.At = 49 }, right, api.OK},
		{"one too many", func(s *api.State) { s.At = 50 }, right, api.ErrMany},
		{"one too many, an open", func(s *api.State) { s.At = 50 }, open(41, 2), api.ErrMany},
		{"one too many, a close", func(s *api.State) { s.At = 50 }, shut(41, 2), api.ErrMany},
		{"one too many, to one lost", func(s *api.State) { s.At = 50 }, call(41, 3, 1, 0, add(1)), api.ErrMany},
		{"the entry ahead of too many", func(s *api.State) { s.At = 50 }, wrong, api.ErrKind},
		{"at above", func(s *api.State) { s.At = 51 }, right, api.ErrRange},
		{"at below", func(s *api.State) { s.At = -1 }, right, api.ErrRange},
		{"clock above", func(s *api.State) { s.Clock = 1000 }, right, api.ErrRange},
		{"value above", func(s *api.State) { s.Vals[2] = 1000 }, right, api.ErrRange},
		{"too many sessions", func(s *api.State) { s.Table = make([]api.Session, 4) }, right, api.ErrMany},
		{"a session twice", func(s *api.State) { s.Table[1].Client = 2 }, right, api.ErrForm},
		{"seen later", func(s *api.State) { s.Clock = 29 }, right, api.ErrForm},
		{"seen too long ago, though the call is later", func(s *api.State) { s.Clock = 51 }, right, api.ErrForm},
		{"the state's range ahead of the entry's kind", func(s *api.State) { s.At = 51 }, wrong, api.ErrRange},
		{"the state's form ahead of the entry's kind", func(s *api.State) { s.Clock = 29 }, wrong, api.ErrForm},
		{"the state's form ahead of too many", func(s *api.State) { s.At, s.Clock = 50, 29 }, right, api.ErrForm},
	} {
		s := shop()
		c.turn(&s)
		then, n, is, e := One(s, c.e)
		if e != c.want {
			t.Errorf("%s: error %d, not %d", c.what, e, c.want)
		}
		if e != api.OK && (!reflect.DeepEqual(then, api.State{}) || n != 0 || is) {
			t.Errorf("%s: error %d, and %v %d %v", c.what, e, then, n, is)
		}
	}
}

// applied is the shop behind one more entry.
func applied(clock, first int, l ...api.Session) api.State {
	return api.State{At: 7, Clock: clock, Vals: [api.Keys]int{first, 0, 0, 1}, Table: l}
}

type oneCase struct {
	what string
	s    api.State
	e    api.Entry
	want api.State
	n    int
	is   bool
}

func seen(s api.Session, time int) api.Session {
	s.Seen = time
	return s
}

func sessionCases() []oneCase {
	full := shopOf(row(1), row(2), row(4))
	return []oneCase{
		{"open: it has one", shop(), open(41, 2), applied(41, 7, seen(row(2), 41), row(4)), 0, false},
		{"open: it has one, all there may be", full, open(41, 4), applied(41, 7, row(1), row(2), seen(row(4), 41)), 0, false},
		{"open: ahead", shop(), open(41, 1), applied(41, 7, session(1, 0, 41), row(2), row(4)), 0, false},
		{"open: between", shop(), open(41, 3), applied(41, 7, row(2), session(3, 0, 41), row(4)), 0, false},
		{"open: behind", shop(), open(41, 5), applied(41, 7, row(2), row(4), session(5, 0, 41)), 0, false},
		{"open: the first", shopOf(), open(41, 5), applied(41, 7, session(5, 0, 41)), 0, false},
		{"open: no room", full, open(41, 3), applied(41, 7, row(1), row(2), row(4)), api.Full, false},
		{"open: room by one too old", shopOf(seen(row(1), 20), row(2), row(4)), open(41, 3), applied(41, 7, row(2), session(3, 0, 41), row(4)), 0, false},
		{"open: its own is too old, so anew", shopOf(seen(row(2), 20)), open(41, 2), applied(41, 7, session(2, 0, 41)), 0, false},
		{"open: its own is just fresh", shopOf(seen(row(2), 21)), open(41, 2), applied(41, 7, seen(row(2), 41)), 0, false},
		{"open: an earlier time", shop(), open(3, 5), applied(40, 7, row(2), row(4), session(5, 0, 40)), 0, false},
		{"open: an earlier time, it has one", shop(), open(0, 2), applied(40, 7, seen(row(2), 40), row(4)), 0, false},
		{"open: all are too old at the last time", full, open(999, 3), applied(999, 7, session(3, 0, 999)), 0, false},

		{"close", shop(), shut(41, 2), applied(41, 7, row(4)), 0, false},
		{"close: the last", shopOf(row(4)), shut(41, 4), applied(41, 7), 0, false},
		{"close: none", shop(), shut(41, 3), applied(41, 7, row(2), row(4)), api.Lost, false},
		{"close: no session at all", shopOf(), shut(41, 3), applied(41, 7), api.Lost, false},
		{"close: too old", shopOf(seen(row(2), 20), row(4)), shut(41, 2), applied(41, 7, row(4)), api.Lost, false},
		{"close: just fresh", shopOf(seen(row(2), 21), row(4)), shut(41, 2), applied(41, 7, row(4)), 0, false},
		{"close: an earlier time", shop(), shut(39, 2), applied(40, 7, row(4)), 0, false},

		{"call: none", shop(), call(41, 3, 1, 0, add(3)), applied(41, 7, row(2), row(4)), api.Lost, false},
		{"call: too old", shopOf(seen(row(2), 20), row(4)), call(41, 2, 4, 2, add(3)), applied(41, 7, row(4)), api.Lost, false},
		{"call: just fresh", shopOf(seen(row(2), 21), row(4)), call(41, 2, 3, 2, add(3)), applied(41, 7, seen(row(2), 41), row(4)), 7, false},
		{"call: another one is too old", shopOf(row(2), seen(row(4), 20)), call(41, 2, 3, 2, add(3)), applied(41, 7, seen(row(2), 41)), 7, false},
		{"call: the same time", shop(), call(40, 2, 3, 2, add(3)), applied(40, 7, seen(row(2), 40), row(4)), 7, false},
		{"call: an earlier time", shop(), call(0, 2, 3, 2, add(3)), applied(40, 7, seen(row(2), 40), row(4)), 7, false},
	}
}

func callCases() []oneCase {
	a, b, c := api.Reply{Seq: 3, Val: 7}, api.Reply{Seq: 4, Val: 10}, api.Reply{Seq: 5, Val: api.Fail}
	return []oneCase{
		// Example 4.
		{"number 4 is done", shop(), call(41, 2, 4, 2, add(3)), applied(41, 10, session(2, 2, 41, a, b, c), row(4)), 10, true},
		{"number 3 has its answer again", shop(), call(41, 2, 3, 2, add(3)), applied(41, 7, seen(row(2), 41), row(4)), 7, false},

		{"Fail is kept, and has its answer again", shop(), call(41, 2, 5, 2, add(3)), applied(41, 7, seen(row(2), 41), row(4)), api.Fail, false},
		{"the other client's own", shop(), call(41, 4, 4, 2, add(3)), applied(41, 10, row(2), session(4, 2, 41, a, b, c)), 10, true},
		{"an earlier ack changes nothing", shop(), call(41, 2, 4, 0, add(3)), applied(41, 10, session(2, 2, 41, a, b, c), row(4)), 10, true},
		{"a Fail is done", shop(), call(41, 2, 4, 2, add(-8)), applied(41, 7, session(2, 2, 41, a, api.Reply{Seq: 4, Val: api.Fail}, c), row(4)), api.Fail, true},
		{"a Get is done", shop(), call(41, 2, 4, 2, api.Op{Kind: api.Get, Key: 3}), applied(41, 7, session(2, 2, 41, a, api.Reply{Seq: 4, Val: 1}, c), row(4)), 1, true},

		{"ack of 3", shop(), call(41, 2, 5, 3, add(3)), applied(41, 7, session(2, 3, 41, c), row(4)), api.Fail, false},
		{"ack of 4, whose answer isn't kept", shop(), call(41, 2, 5, 4, add(3)), applied(41, 7, session(2, 4, 41, c), row(4)), api.Fail, false},
		{"ack of 5, none is left", shop(), call(41, 2, 6, 5, add(3)), applied(41, 10, session(2, 5, 41, api.Reply{Seq: 6, Val: 10}), row(4)), 10, true},
		{"ack far beyond all", shop(), call(41, 2, 60, 57, add(3)), applied(41, 10, session(2, 57, 41, api.Reply{Seq: 60, Val: 10}), row(4)), 10, true},
		{"ack makes room in the window", shop(), call(41, 2, 6, 3, add(3)), applied(41, 10, session(2, 3, 41, c, api.Reply{Seq: 6, Val: 10}), row(4)), 10, true},

		{"stale: acknowledged long ago", shop(), call(41, 2, 1, 0, add(3)), applied(41, 7, seen(row(2), 41), row(4)), api.Stale, false},
		{"stale: just acknowledged", shop(), call(41, 2, 2, 1, add(3)), applied(41, 7, seen(row(2), 41), row(4)), api.Stale, false},
		{"stale: the last number", shopOf(session(2, 60, 30)), call(41, 2, 60, 59, add(3)), applied(41, 7, session(2, 60, 41)), api.Stale, false},

		{"far", shop(), call(41, 2, 6, 2, add(3)), applied(41, 7, seen(row(2), 41), row(4)), api.Far, false},
		{"far by an earlier ack", shop(), call(41, 2, 6, 0, add(3)), applied(41, 7, seen(row(2), 41), row(4)), api.Far, false},
		{"far, though its ack counts", shop(), call(41, 2, 8, 4, add(3)), applied(41, 7, session(2, 4, 41, c), row(4)), api.Far, false},
		{"far: the last number", shop(), call(41, 2, 60, 56, add(3)), applied(41, 7, session(2, 56, 41), row(4)), api.Far, false},
		{"the last of the window", shopOf(session(2, 2, 30)), call(41, 2, 5, 0, add(3)), applied(41, 10, session(2, 2, 41, api.Reply{Seq: 5, Val: 10})), 10, true},
		{"the first of the window", shopOf(session(2, 2, 30, c)), call(41, 2, 3, 0, add(3)), applied(41, 10, session(2, 2, 41, api.Reply{Seq: 3, Val: 10}, c)), 10, true},
	}
}

// D2: One.
func TestOne(t *testing.T) {
	for _, c := range append(sessionCases(), callCases()...) {
		s, n, is, e := One(c.s, c.e)
		if !state.Same(s, c.want) || n != c.n || is != c.is || e != api.OK {
			t.Errorf("%s: %v %d %v %d, not %v %d %v", c.what, s, n, is, e, c.want, c.n, c.is)
		}
		if f := state.Check(s); f != api.OK {
			t.Errorf("%s: the state then has error %d", c.what, f)
		}
	}
}

// D2: all kinds of ops are done, with all that they tell.
func TestOneOps(t *testing.T) {
	for _, c := range []struct {
		x    api.Op
		vals [api.Keys]int
		n    int
	}{
		{api.Op{Kind: api.Set, Key: 2, N: 999}, [api.Keys]int{7, 0, 999, 1}, 999},
		{api.Op{Kind: api.Add, Key: 3, N: -1}, [api.Keys]int{7, 0, 0, 0}, 0},
		{api.Op{Kind: api.Move, To: 1, N: 2}, [api.Keys]int{5, 2, 0, 1}, 5},
		{api.Op{Kind: api.Move, To: 1, N: 8}, [api.Keys]int{7, 0, 0, 1}, api.Fail},
		{api.Op{Kind: api.Get, Key: 0}, [api.Keys]int{7, 0, 0, 1}, 7},
	} {
		s, n, is, e := One(shop(), call(41, 2, 4, 2, c.x))
		if s.Vals != c.vals || n != c.n || !is || e != api.OK {
			t.Errorf("%v: %v %d %v %d, not %v %d", c.x, s.Vals, n, is, e, c.vals, c.n)
		}
	}
}
