package trace

import (
	"math"
	"slices"
	"testing"

	"portage/api"
)

func add(n int) api.Op { return api.Op{Kind: api.Add, N: n} }

func open(time, client int) api.Entry {
	return api.Entry{Kind: api.Open, Time: time, Client: client}
}

func shut(time, client int) api.Entry {
	return api.Entry{Kind: api.Close, Time: time, Client: client}
}

func call(time, client, seq, ack int, x api.Op) api.Entry {
	return api.Entry{Kind: api.Call, Time: time, Client: client, Seq: seq, Ack: ack, Op: x}
}

func many(n int) []api.Entry { return slices.Repeat([]api.Entry{open(1, 1)}, n) }

// busy is a session whose numbers are all done, as many as there is room for.
func busy() []api.Entry {
	l := many(1)
	for n := 1; n < api.MaxLog; n++ {
		l = append(l, call(1, 1, n, n-1, add(n)))
	}
	return l
}

// step is an entry, and whether an op is done by it.
type step struct {
	e  api.Entry
	is bool
}

type doneCase struct {
	what  string
	steps []step
}

func (c doneCase) split() (l []api.Entry, done []bool, ops []api.Op) {
	for _, s := range c.steps {
		l, done = append(l, s.e), append(done, s.is)
		if s.is {
			ops = append(ops, s.e.Op)
		}
	}
	return l, done, ops
}

func doneCases() []doneCase {
	move := api.Op{Kind: api.Move, To: 1, N: 2}
	all := doneCase{what: "all there may be"}
	for i, e := range busy() {
		all.steps = append(all.steps, step{e, i > 0})
	}
	return []doneCase{
		all,
		{"none", nil},
		{"no op at all", []step{{open(1, 1), false}, {open(2, 1), false}, {shut(3, 1), false}, {shut(4, 1), false}}},
		{"example 6", []step{
			{open(1, 1), false}, {call(2, 1, 1, 0, add(5)), true}, {call(3, 1, 1, 0, add(5)), false}, {call(4, 2, 1, 0, add(7)), false}, {open(4, 2), false},
			{call(5, 1, 2, 1, move), true}, {call(6, 1, 1, 0, add(5)), false}, {call(40, 1, 2, 1, add(1)), false}, {open(41, 1), false}, {call(42, 1, 1, 0, add(9)), true},
		}},
		{"no session", []step{{call(1, 1, 1, 0, add(5)), false}, {open(1, 2), false}, {call(1, 1, 1, 0, add(5)), false}}},
		{"no room for a session", []step{{open(1, 1), false}, {open(1, 2), false}, {open(1, 3), false}, {open(1, 4), false}, {call(1, 4, 1, 0, add(5)), false}, {call(1, 3, 1, 0, add(5)), true}}},
		{"asked again by another op", []step{{open(1, 1), false}, {call(1, 1, 1, 0, add(5)), true}, {call(1, 1, 1, 0, move), false}, {call(9, 1, 1, 0, add(6)), false}}},
		{"in another order", []step{{open(1, 1), false}, {call(1, 1, 3, 0, add(3)), true}, {call(1, 1, 1, 0, add(1)), true}, {call(1, 1, 2, 0, add(2)), true}, {call(1, 1, 3, 0, add(3)), false}}},
		{"acknowledged", []step{{open(1, 1), false}, {call(1, 1, 3, 2, add(3)), true}, {call(1, 1, 2, 0, add(2)), false}, {call(1, 1, 1, 0, add(1)), false}}},
		{"too far ahead", []step{{open(1, 1), false}, {call(1, 1, 4, 0, add(4)), false}, {call(1, 1, 3, 0, add(3)), true}, {call(1, 1, 4, 1, add(4)), true}}},
		{"it fails, and is done", []step{{open(1, 1), false}, {call(1, 1, 1, 0, add(-1)), true}, {call(1, 1, 1, 0, add(-1)), false}, {call(1, 1, 2, 0, move), true}}},
		{"it asks, and is done", []step{{open(1, 1), false}, {call(1, 1, 1, 0, api.Op{Kind: api.Get, Key: 3}), true}, {call(1, 1, 2, 0, api.Op{Kind: api.Set, Key: 3, N: 9}), true}}},
		{"closed, and anew", []step{{open(1, 1), false}, {call(1, 1, 1, 0, add(5)), true}, {shut(1, 1), false}, {call(1, 1, 1, 0, add(5)), false}, {open(1, 1), false}, {call(1, 1, 1, 0, add(5)), true}}},
		{"just fresh", []step{{open(1, 1), false}, {call(1, 1, 1, 0, add(5)), true}, {open(21, 1), false}, {call(41, 1, 1, 0, add(5)), false}, {call(61, 1, 2, 0, add(5)), true}}},
		{"too old, and anew", []step{{open(1, 1), false}, {call(1, 1, 1, 0, add(5)), true}, {open(22, 1), false}, {call(22, 1, 1, 0, add(5)), true}}},
		{"two clients, one number", []step{{open(1, 1), false}, {open(1, 2), false}, {call(1, 1, 1, 0, add(5)), true}, {call(1, 2, 1, 0, add(5)), true}, {call(1, 1, 1, 0, add(5)), false}}},
	}
}

// F1: Done and Ops.
func TestDone(t *testing.T) {
	for _, c := range doneCases() {
		l, want, ops := c.split()
		if got, e := Done(l); !slices.Equal(got, want) || e != api.OK {
			t.Errorf("%s: Done is %v %d, not %v", c.what, got, e, want)
		}
		if got, e := Ops(l); !slices.Equal(got, ops) || e != api.OK {
			t.Errorf("%s: Ops is %v %d, not %v", c.what, got, e, ops)
		}
	}
}

// F1: Once, of each client and number.
func TestOnce(t *testing.T) {
	for _, c := range doneCases() {
		want := map[[2]int]int{}
		for _, s := range c.steps {
			if s.is {
				want[[2]int{s.e.Client, s.e.Seq}]++
			}
		}
		l, _, _ := c.split()
		for client := 1; client <= 5; client++ {
			for seq := 1; seq <= 60; seq++ {
				if got, e := Once(l, client, seq); got != want[[2]int{client, seq}] || e != api.OK {
					t.Errorf("%s: Once of %d and %d is %d %d, not %d", c.what, client, seq, got, e, want[[2]int{client, seq}])
				}
			}
		}
	}
}

type listCase struct {
	what string
	l    []api.Entry
	want api.Errno
}

func listCases() []listCase {
	noKind, noTime, noForm := api.Entry{}, open(-1, 1), api.Entry{Kind: api.Close, Client: 1, Op: add(1)}
	return []listCase{
		{"no list", nil, api.OK},
		{"an empty list", []api.Entry{}, api.OK},
		{"all there may be", many(50), api.OK},
		{"one too many", many(51), api.ErrMany},
		{"too many ahead of a wrong one", make([]api.Entry, 51), api.ErrMany},
		{"no kind", append(many(2), noKind), api.ErrKind},
		{"no time", append(many(2), noTime), api.ErrRange},
		{"no form", append(many(2), noForm), api.ErrForm},
		{"an op of no kind", append(many(2), call(1, 1, 1, 0, api.Op{Kind: 5})), api.ErrKind},
		{"a wrong one to a session that is not there", []api.Entry{call(1, 1, 61, 0, add(1))}, api.ErrRange},
		{"the first error", []api.Entry{open(1, 1), noForm, noTime, noKind}, api.ErrForm},
	}
}

// F1 and P1: fold.Check's errors, and nothing with them.
func TestListErrors(t *testing.T) {
	for _, c := range listCases() {
		done, e := Done(c.l)
		ops, f := Ops(c.l)
		n, g := Once(c.l, 1, 1)
		if e != c.want || f != c.want || g != c.want {
			t.Errorf("%s: errors %d %d %d, not %d", c.what, e, f, g, c.want)
		}
		if c.want != api.OK && (len(done) != 0 || len(ops) != 0 || n != 0) {
			t.Errorf("%s: an error, and %v %v %d", c.what, done, ops, n)
		}
	}
}

// F1 and P1: Once's own error, behind those of the list.
func TestOnceErrors(t *testing.T) {
	for _, c := range []struct {
		client, seq int
		want        api.Errno
	}{
		{1, 1, api.OK}, {5, 60, api.OK}, {1, 60, api.OK}, {5, 1, api.OK},
		{0, 1, api.ErrRange}, {6, 1, api.ErrRange}, {-1, 1, api.ErrRange}, {1, 0, api.ErrRange}, {1, 61, api.ErrRange}, {1, -1, api.ErrRange},
		{math.MinInt, math.MaxInt, api.ErrRange}, {math.MaxInt, 1, api.ErrRange}, {1, math.MinInt, api.ErrRange},
	} {
		for _, l := range [][]api.Entry{nil, busy()} {
			n, e := Once(l, c.client, c.seq)
			if e != c.want || e != api.OK && n != 0 {
				t.Errorf("Once of %d and %d is %d %d, not with error %d", c.client, c.seq, n, e, c.want)
			}
		}
		for _, l := range listCases() {
			if n, e := Once(l.l, c.client, c.seq); l.want != api.OK && (n != 0 || e != l.want) {
				t.Errorf("%s: Once of %d and %d is %d %d, not with error %d", l.what, c.client, c.seq, n, e, l.want)
			}
		}
	}
}
