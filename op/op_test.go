package op

import (
	"math"
	"testing"

	"portage/api"
)

type vals = [api.Keys]int

// A1: Check.
func TestCheck(t *testing.T) {
	for _, c := range []struct {
		what string
		x    api.Op
		want api.Errno
	}{
		{"empty", api.Op{}, api.ErrKind},
		{"kind below", api.Op{Kind: -1}, api.ErrKind},
		{"kind above", api.Op{Kind: 5}, api.ErrKind},
		{"least kind", api.Op{Kind: math.MinInt}, api.ErrKind},
		{"greatest kind", api.Op{Kind: math.MaxInt}, api.ErrKind},

		{"set", api.Op{Kind: api.Set, Key: 2, N: 7}, api.OK},
		{"set, least", api.Op{Kind: api.Set}, api.OK},
		{"set, greatest", api.Op{Kind: api.Set, Key: 3, N: 999}, api.OK},
		{"set, n above", api.Op{Kind: api.Set, N: 1000}, api.ErrRange},
		{"set, n below", api.Op{Kind: api.Set, N: -1}, api.ErrRange},
		{"set, n least", api.Op{Kind: api.Set, N: math.MinInt}, api.ErrRange},
		{"set, key above", api.Op{Kind: api.Set, Key: 4}, api.ErrRange},
		{"set, key below", api.Op{Kind: api.Set, Key: -1}, api.ErrRange},
		{"set, to", api.Op{Kind: api.Set, To: 1}, api.ErrForm},
		{"set, to out of bounds", api.Op{Kind: api.Set, To: 4}, api.ErrForm},
		{"set, to below", api.Op{Kind: api.Set, To: -1}, api.ErrForm},

		{"add", api.Op{Kind: api.Add, Key: 1, N: -3}, api.OK},
		{"add nothing", api.Op{Kind: api.Add}, api.OK},
		{"add, least", api.Op{Kind: api.Add, N: -999}, api.OK},
		{"add, greatest", api.Op{Kind: api.Add, Key: 3, N: 999}, api.OK},
		{"add, n below", api.Op{Kind: api.Add, N: -1000}, api.ErrRange},
		{"add, n above", api.Op{Kind: api.Add, N: 1000}, api.ErrRange},
		{"add, n least", api.Op{Kind: api.Add, N: math.MinInt}, api.ErrRange},
		{"add, n greatest", api.Op{Kind: api.Add, N: math.MaxInt}, api.ErrRange},
		{"add, key above", api.Op{Kind: api.Add, Key: 4}, api.ErrRange},
		{"add, key below", api.Op{Kind: api.Add, Key: -1}, api.ErrRange},
		{"add, to", api.Op{Kind: api.Add, To: 3}, api.ErrForm},

		{"move", api.Op{Kind: api.Move, Key: 1, To: 2, N: 3}, api.OK},
		{"move to itself", api.Op{Kind: api.Move, Key: 2, To: 2, N: 3}, api.OK},
		{"move, greatest", api.Op{Kind: api.Move, Key: 3, To: 3, N: 999}, api.OK},
		{"move, to above", api.Op{Kind: api.Move, To: 4}, api.ErrRange},
		{"move, to below", api.Op{Kind: api.Move, To: -1}, api.ErrRange},
		{"move, to greatest", api.Op{Kind: api.Move, To: math.MaxInt}, api.ErrRange},
		{"move, key above", api.Op{Kind: api.Move, Key: 4}, api.ErrRange},
		{"move, n below", api.Op{Kind: api.Move, To: 1, N: -1}, api.ErrRange},
		{"move, n above", api.Op{Kind: api.Move, To: 1, N: 1000}, api.ErrRange},

		{"get", api.Op{Kind: api.Get, Key: 3}, api.OK},
		{"get, key above", api.Op{Kind: api.Get, Key: 4}, api.ErrRange},
		{"get, key below", api.Op{Kind: api.Get, Key: math.MinInt}, api.ErrRange},
		{"get, n", api.Op{Kind: api.Get, N: 1}, api.ErrForm},
		{"get, n out of bounds", api.Op{Kind: api.Get, N: 1000}, api.ErrForm},
		{"get, n below", api.Op{Kind: api.Get, N: -1}, api.ErrForm},
		{"get, to", api.Op{Kind: api.Get, To: 1}, api.ErrForm},

		{"kind ahead of range", api.Op{Kind: 9, Key: 4, To: 4, N: 1000}, api.ErrKind},
		{"range of n ahead of form", api.Op{Kind: api.Set, To: 1, N: 1000}, api.ErrRange},
		{"range of key ahead of form", api.Op{Kind: api.Get, Key: 4, To: 1, N: 1}, api.ErrRange},
		{"range of add ahead of form", api.Op{Kind: api.Add, To: 1, N: -1000}, api.ErrRange},
	} {
		if got := Check(c.x); got != c.want {
			t.Errorf("%s: Check(%v) is %d, not %d", c.what, c.x, got, c.want)
		}
	}
}

// A1: Do.
func TestDo(t *testing.T) {
	some := vals{5, 0, 999, 1}
	for _, c := range []struct {
		what string
		v    vals
		x    api.Op
		then vals
		n    int
	}{
		{"set", some, api.Op{Kind: api.Set, Key: 1, N: 8}, vals{5, 8, 999, 1}, 8},
		{"set to nothing", some, api.Op{Kind: api.Set, Key: 2}, vals{5, 0, 0, 1}, 0},
		{"set to the greatest", some, api.Op{Kind: api.Set, Key: 3, N: 999}, vals{5, 0, 999, 999}, 999},

		{"add", some, api.Op{Kind: api.Add, Key: 0, N: 3}, vals{8, 0, 999, 1}, 8},
		{"add nothing", some, api.Op{Kind: api.Add, Key: 2}, some, 999},
		{"add up to the greatest", some, api.Op{Kind: api.Add, Key: 3, N: 998}, vals{5, 0, 999, 999}, 999},
		{"add one too many", some, api.Op{Kind: api.Add, Key: 3, N: 999}, some, api.Fail},
		{"take all", some, api.Op{Kind: api.Add, Key: 0, N: -5}, vals{0, 0, 999, 1}, 0},
		{"take one too many", some, api.Op{Kind: api.Add, Key: 0, N: -6}, some, api.Fail},
		{"take the greatest", some, api.Op{Kind: api.Add, Key: 2, N: -999}, vals{5, 0, 0, 1}, 0},

		{"move 3 of 5", some, api.Op{Kind: api.Move, Key: 0, To: 1, N: 3}, vals{2, 3, 999, 1}, 2},
		{"move all", some, api.Op{Kind: api.Move, Key: 0, To: 3, N: 5}, vals{0, 0, 999, 6}, 0},
		{"move nothing", some, api.Op{Kind: api.Move, Key: 1, To: 2}, some, 0},
		{"move one too many", some, api.Op{Kind: api.Move, Key: 0, To: 1, N: 6}, some, api.Fail},
		{"move to the full one", some, api.Op{Kind: api.Move, Key: 0, To: 2, N: 1}, some, api.Fail},
		{"move to itself", some, api.Op{Kind: api.Move, Key: 0, To: 0, N: 5}, some, 5},
		{"move the full one to itself", some, api.Op{Kind: api.Move, Key: 2, To: 2, N: 999}, some, 999},
		{"move one too many to itself", some, api.Op{Kind: api.Move, Key: 0, To: 0, N: 6}, some, api.Fail},

		{"get", some, api.Op{Kind: api.Get, Key: 2}, some, 999},
		{"get the first", some, api.Op{Kind: api.Get}, some, 5},
	} {
		then, n, e := Do(c.v, c.x)
		if then != c.then || n != c.n || e != api.OK {
			t.Errorf("%s: Do(%v, %v) is %v %d %d, not %v %d 0", c.what, c.v, c.x, then, n, e, c.then, c.n)
		}
	}
}

// A1 and P1: Do's errors, which comes first, and that nothing else comes with them.
func TestDoErrors(t *testing.T) {
	good := vals{1, 2, 3, 4}
	for _, c := range []struct {
		what string
		v    vals
		x    api.Op
		want api.Errno
	}{
		{"no kind", good, api.Op{}, api.ErrKind},
		{"no key", good, api.Op{Kind: api.Set, Key: 4}, api.ErrRange},
		{"to is not told", good, api.Op{Kind: api.Add, To: 1}, api.ErrForm},
		{"first value above", vals{1000, 0, 0, 0}, api.Op{Kind: api.Get}, api.ErrRange},
		{"last value above", vals{0, 0, 0, 1000}, api.Op{Kind: api.Get}, api.ErrRange},
		{"value below", vals{0, -1, 0, 0}, api.Op{Kind: api.Get}, api.ErrRange},
		{"value that would be set", vals{-1, 0, 0, 0}, api.Op{Kind: api.Set}, api.ErrRange},
		{"value that would be right then", vals{1000, 0, 0, 0}, api.Op{Kind: api.Add, N: -1}, api.ErrRange},
		{"least value", vals{math.MinInt, 0, 0, 0}, api.Op{Kind: api.Move, N: 999}, api.ErrRange},
		{"greatest value", vals{math.MaxInt, 0, 0, 0}, api.Op{Kind: api.Add, N: 999}, api.ErrRange},
		{"kind ahead of values", vals{1000, 0, 0, 0}, api.Op{Kind: 7}, api.ErrKind},
		{"form ahead of values", vals{1000, 0, 0, 0}, api.Op{Kind: api.Get, N: 1}, api.ErrForm},
	} {
		then, n, e := Do(c.v, c.x)
		if then != (vals{}) || n != 0 || e != c.want {
			t.Errorf("%s: Do(%v, %v) is %v %d %d, not empty and %d", c.what, c.v, c.x, then, n, e, c.want)
		}
	}
}

// everyOp has ops of all kinds, right and wrong, with numbers at and around their bounds.
func everyOp() []api.Op {
	var out []api.Op
	for kind := -1; kind <= 5; kind++ {
		for _, key := range []int{math.MinInt, -1, 0, 1, 3, 4, math.MaxInt} {
			for _, to := range []int{math.MinInt, -1, 0, 1, 3, 4, math.MaxInt} {
				for _, n := range []int{math.MinInt, -1000, -999, -1, 0, 1, 5, 999, 1000, math.MaxInt} {
					out = append(out, api.Op{Kind: kind, Key: key, To: to, N: n})
				}
			}
		}
	}
	return out
}

func sum(v vals) int {
	n := 0
	for _, x := range v {
		n += x
	}
	return n
}

// What is moved is nowhere lost; values stay in their bounds; Do has each of Check's errors.
func TestDoKeepsWhatThereIs(t *testing.T) {
	for _, v := range []vals{{}, {5, 0, 0, 1}, {999, 999, 999, 999}, {0, 998, 1, 500}} {
		for _, x := range everyOp() {
			then, n, e := Do(v, x)
			if e != Check(x) {
				t.Fatalf("Do(%v, %v) has error %d, Check %d", v, x, e, Check(x))
			}
			if e != api.OK {
				continue
			}
			for _, y := range then {
				if y < 0 || y > api.MaxVal {
					t.Fatalf("Do(%v, %v) is %v", v, x, then)
				}
			}
			if (x.Kind == api.Move || x.Kind == api.Get || n == api.Fail) && sum(then) != sum(v) {
				t.Fatalf("Do(%v, %v) is %v", v, x, then)
			}
			if n != api.Fail && n != then[x.Key] || n == api.Fail && then != v {
				t.Fatalf("Do(%v, %v) is %v, and answers %d", v, x, then, n)
			}
		}
	}
}

// P2 and P3: the values that were handed in are as they were, and the same call has the same answer.
func TestDoAgain(t *testing.T) {
	v := vals{5, 0, 999, 1}
	for _, x := range everyOp() {
		a, n, e := Do(v, x)
		b, m, f := Do(v, x)
		if a != b || n != m || e != f {
			t.Fatalf("Do(%v, %v) is %v %d %d, then %v %d %d", v, x, a, n, e, b, m, f)
		}
	}
	if v != (vals{5, 0, 999, 1}) {
		t.Errorf("the values are %v", v)
	}
}
