package fold

import (
	"reflect"
	"slices"
	"testing"

	"portage/api"
	"portage/apply"
	"portage/state"
)

func add(n int) api.Op { return api.Op{Kind: api.Add, N: n} }

func open(time, client int) api.Entry {
	return api.Entry{Kind: api.Open, Time: time, Client: client}
}

func call(time, client, seq, ack int, x api.Op) api.Entry {
	return api.Entry{Kind: api.Call, Time: time, Client: client, Seq: seq, Ack: ack, Op: x}
}

// ten entries, of example 5, and what they answer.
func ten() []api.Entry {
	return []api.Entry{
		open(1, 1), call(2, 1, 1, 0, add(5)), call(3, 1, 1, 0, add(5)), call(4, 2, 1, 0, add(7)), open(4, 2),
		call(5, 1, 2, 1, api.Op{Kind: api.Move, To: 1, N: 2}), call(6, 1, 1, 0, add(5)), call(40, 1, 2, 1, add(1)), open(41, 1), call(42, 1, 1, 0, add(9)),
	}
}

func tenAnswers() []int { return []int{0, 5, 5, -3, 0, 3, -4, -3, 0, 12} }

// many has so many entries, each right.
func many(n int) []api.Entry { return slices.Repeat([]api.Entry{open(1, 1)}, n) }

// badAt is a list of three of which one is changed.
func badAt(i int, e api.Entry) []api.Entry {
	l := many(3)
	l[i] = e
	return l
}

type listCase struct {
	what string
	l    []api.Entry
	want api.Errno
}

func listCases() []listCase {
	noKind, noTime, noForm := api.Entry{}, open(-1, 1), api.Entry{Kind: api.Open, Client: 1, Seq: 1}
	return []listCase{
		{"none", nil, api.OK},
		{"an empty list", []api.Entry{}, api.OK},
		{"ten", ten(), api.OK},
		{"all there may be", many(50), api.OK},
		{"one too many", many(51), api.ErrMany},
		{"many too many", many(500), api.ErrMany},
		{"a wrong one at first", badAt(0, noKind), api.ErrKind},
		{"a wrong one between", badAt(1, noTime), api.ErrRange},
		{"a wrong one at last", badAt(2, noForm), api.ErrForm},
		{"an op's error", badAt(2, call(1, 1, 1, 0, api.Op{Kind: 9})), api.ErrKind},
		{"the first error: form", []api.Entry{open(1, 1), noForm, noTime, noKind}, api.ErrForm},
		{"the first error: range", []api.Entry{noTime, noKind, noForm}, api.ErrRange},
		{"the first error: kind", []api.Entry{open(1, 1), noKind, noForm}, api.ErrKind},
		{"many ahead of the first error", make([]api.Entry, 51), api.ErrMany},
	}
}

// E1: Check.
func TestCheck(t *testing.T) {
	for _, c := range listCases() {
		if got := Check(c.l); got != c.want {
			t.Errorf("%s: Check is %d, not %d", c.what, got, c.want)
		}
	}
}

// E1 and P1: All tells the state's errors first, then Check's, then that there are too many; and nothing with them.
func TestAllErrors(t *testing.T) {
	for _, c := range listCases() {
		wantError(t, c.what, api.State{}, c.l, c.want)
		wantError(t, c.what+", of a wrong state", api.State{At: 51}, c.l, api.ErrRange)
		wantError(t, c.what+", of sessions twice", api.State{Table: []api.Session{{Client: 1}, {Client: 1}}}, c.l, api.ErrForm)
		if c.want != api.OK {
			wantError(t, c.what+", of a state at its end", api.State{At: 50}, c.l, c.want)
		}
	}
	for at := range 51 {
		wantError(t, "as many as there is room", api.State{At: at}, many(50-at), api.OK)
		if at > 0 {
			wantError(t, "one more than there is room", api.State{At: at}, many(51-at), api.ErrMany)
		}
	}
}

func wantError(t *testing.T, what string, s api.State, l []api.Entry, want api.Errno) {
	then, answers, e := All(s, l)
	if e != want {
		t.Errorf("%s: All has error %d, not %d", what, e, want)
	}
	if e != api.OK && (!reflect.DeepEqual(then, api.State{}) || len(answers) != 0) {
		t.Errorf("%s: All has error %d, and %v %v", what, e, then, answers)
	}
}

// E1: All, of example 5, cut anywhere.
func TestAll(t *testing.T) {
	want := api.State{At: 10, Clock: 42, Vals: [api.Keys]int{12, 2}, Table: []api.Session{{Client: 1, Seen: 42, Kept: []api.Reply{{Seq: 1, Val: 12}}}}}
	for k := range 11 {
		s, a, e := All(state.Begin(), ten()[:k])
		if s.At != k || !slices.Equal(a, tenAnswers()[:k]) || e != api.OK {
			t.Errorf("%d entries: %v %v %d", k, s, a, e)
		}
		s, a, e = All(s, ten()[k:])
		if !state.Same(s, want) || !slices.Equal(a, tenAnswers()[k:]) || e != api.OK {
			t.Errorf("the rest behind %d: %v %v %d", k, s, a, e)
		}
	}
}

// E1: All does what apply.One does, entry by entry, of a state that isn't the first one.
func TestAllAsOne(t *testing.T) {
	s := api.State{At: 30, Clock: 9, Vals: [api.Keys]int{7}, Table: []api.Session{{Client: 2, Acked: 1, Seen: 9, Kept: []api.Reply{{Seq: 2, Val: 4}}}, {Client: 5, Seen: 3}}}
	l := append(ten(), call(43, 1, 3, 0, add(-99)), call(50, 1, 3, 1, add(1)), api.Entry{Kind: api.Close, Time: 50, Client: 1}, call(51, 1, 3, 1, add(1)))
	want := s
	var answers []int
	for _, x := range l {
		then, n, _, e := apply.One(want, x)
		if e != api.OK {
			t.Fatalf("%v has error %d", x, e)
		}
		want, answers = then, append(answers, n)
	}
	got, a, e := All(s, l)
	if !state.Same(got, want) || !slices.Equal(a, answers) || e != api.OK {
		t.Errorf("All is %v %v %d, not %v %v", got, a, e, want, answers)
	}
}

// E1: without entries the state is as it was, and there are no answers.
func TestAllOfNone(t *testing.T) {
	s := api.State{At: 50, Clock: 9, Vals: [api.Keys]int{7}, Table: []api.Session{{Client: 2, Seen: 9, Kept: []api.Reply{{Seq: 2, Val: 4}}}}}
	for _, l := range [][]api.Entry{nil, {}} {
		got, a, e := All(s, l)
		if !state.Same(got, s) || len(a) != 0 || e != api.OK {
			t.Errorf("All is %v %v %d", got, a, e)
		}
	}
}
