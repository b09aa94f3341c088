package stub

import (
	"reflect"
	"slices"
	"testing"

	"portage/api"
)

func own(client, next int, came ...int) api.Stub {
	return api.Stub{Client: client, Next: next, Came: came}
}

func upTo(n int) []int {
	var out []int
	for i := 1; i <= n; i++ {
		out = append(out, i)
	}
	return out
}

func add(n int) api.Op { return api.Op{Kind: api.Add, N: n} }

func entry(time, client, seq, ack int, x api.Op) api.Entry {
	return api.Entry{Kind: api.Call, Time: time, Client: client, Seq: seq, Ack: ack, Op: x}
}

func same(a, b api.Stub) bool {
	return a.Client == b.Client && a.Next == b.Next && slices.Equal(a.Came, b.Came)
}

func isNone(s api.Stub) bool { return s.Client == 0 && s.Next == 0 && len(s.Came) == 0 }

// wrong ones, with their errors.
func wrong() []struct {
	s    api.Stub
	want api.Errno
} {
	return []struct {
		s    api.Stub
		want api.Errno
	}{
		{api.Stub{}, api.ErrRange},
		{own(0, 1), api.ErrRange},
		{own(-1, 1), api.ErrRange},
		{own(6, 1), api.ErrRange},
		{own(1, 0), api.ErrRange},
		{own(1, -1), api.ErrRange},
		{own(1, 62), api.ErrRange},
		{own(6, 1, 1), api.ErrRange},
		{own(1, 62, 0), api.ErrRange},
		{own(1, 0, -1), api.ErrRange},
		{own(1, 1, 0), api.ErrForm},
		{own(1, 1, 1), api.ErrForm},
		{own(2, 5, 0), api.ErrForm},
		{own(2, 5, -1, 1), api.ErrForm},
		{own(2, 5, 5), api.ErrForm},
		{own(2, 5, 1, 2, 3, 4, 5), api.ErrForm},
		{own(2, 5, 1, 1), api.ErrForm},
		{own(2, 5, 2, 1), api.ErrForm},
		{own(2, 5, 1, 3, 2), api.ErrForm},
		{own(2, 5, 1, 2, 2), api.ErrForm},
		{own(5, 61, 61), api.ErrForm},
		{own(5, 61, -1<<63, 1<<63-1), api.ErrForm},
	}
}

// L1: Check of right ones.
func TestCheck(t *testing.T) {
	for _, s := range []api.Stub{
		own(1, 1), own(5, 1), own(1, 61), own(5, 61, upTo(60)...), own(5, 61, 60), own(2, 2), own(2, 2, 1),
		own(2, 5, 1, 2, 4), own(2, 5, 2, 3, 4), own(2, 5, 4), {Client: 1, Next: 1, Came: []int{}},
	} {
		if e := Check(s); e != api.OK {
			t.Errorf("Check of %v is %d", s, e)
		}
	}
}

// L1 and P1: the others tell Check's errors first, and nothing else with them.
func TestWrong(t *testing.T) {
	for _, c := range wrong() {
		if e := Check(c.s); e != c.want {
			t.Errorf("Check of %v is %d, not %d", c.s, e, c.want)
		}
		for _, x := range []api.Op{add(1), {}} {
			for _, time := range []int{7, 1000} {
				if s, c2, e := Next(c.s, time, x); !isNone(s) || c2 != (api.Entry{}) || e != c.want {
					t.Errorf("Next of %v is %v %v %d, not error %d", c.s, s, c2, e, c.want)
				}
				for _, seq := range []int{-1, 0, 1, 2, 99} {
					if c2, e := Again(c.s, time, seq, x); c2 != (api.Entry{}) || e != c.want {
						t.Errorf("Again of %v is %v %d, not error %d", c.s, c2, e, c.want)
					}
				}
			}
		}
		for _, seq := range []int{-1, 0, 1, 2, 99} {
			if s, e := Came(c.s, seq); !isNone(s) || e != c.want {
				t.Errorf("Came of %v is %v %d, not error %d", c.s, s, e, c.want)
			}
		}
	}
}

// L2: Next, with what is acknowledged.
func TestNext(t *testing.T) {
	for _, c := range []struct {
		s   api.Stub
		ack int
	}{
		{own(1, 1), 0},
		{own(3, 2), 0},
		{own(3, 2, 1), 1},
		{own(2, 5, 1, 2, 4), 2}, // example 12
		{own(2, 5, 2, 3, 4), 0},
		{own(2, 5, 1, 2, 3, 4), 4},
		{own(2, 5, 4), 0},
		{own(2, 5, 1), 1},
		{own(2, 9, 1, 3, 5, 6), 1},
		{own(5, 60, upTo(59)...), 59},
		{own(5, 60, upTo(58)...), 58},
		{own(5, 60), 0},
	} {
		then, got, e := Next(c.s, 7, add(-3))
		wantThen := own(c.s.Client, c.s.Next+1, c.s.Came...)
		want := entry(7, c.s.Client, c.s.Next, c.ack, add(-3))
		if !same(then, wantThen) || got != want || e != api.OK {
			t.Errorf("Next of %v is %v %v %d, not %v %v", c.s, then, got, e, wantThen, want)
		}
	}
}

// wrongCalls have apply.Check's errors, told of time and op.
func wrongCalls() []struct {
	time int
	x    api.Op
	want api.Errno
} {
	return []struct {
		time int
		x    api.Op
		want api.Errno
	}{
		{0, add(1), api.OK},
		{999, add(1), api.OK},
		{-1, add(1), api.ErrRange},
		{1000, add(1), api.ErrRange},
		{1000, api.Op{}, api.ErrRange},
		{7, api.Op{}, api.ErrKind},
		{7, api.Op{Kind: 5, Key: 9}, api.ErrKind},
		{7, add(1000), api.ErrRange},
		{7, api.Op{Kind: api.Set, N: -1}, api.ErrRange},
		{7, api.Op{Kind: api.Set, Key: 4}, api.ErrRange},
		{7, api.Op{Kind: api.Move, Key: 1, To: 3, N: 999}, api.OK},
		{7, api.Op{Kind: api.Move, To: 4}, api.ErrRange},
		{7, api.Op{Kind: api.Get, N: 1}, api.ErrForm},
		{7, api.Op{Kind: api.Add, To: 1}, api.ErrForm},
	}
}

// L2 and P1: apply.Check's errors of Next and Again.
func TestWrongCalls(t *testing.T) {
	s := own(2, 5, 1, 2, 4)
	for _, c := range wrongCalls() {
		wantThen, wantNext, wantAgain := own(2, 6, 1, 2, 4), entry(c.time, 2, 5, 2, c.x), entry(c.time, 2, 3, 2, c.x)
		if c.want != api.OK {
			wantThen, wantNext, wantAgain = api.Stub{}, api.Entry{}, api.Entry{}
		}
		if then, got, e := Next(s, c.time, c.x); !same(then, wantThen) || got != wantNext || e != c.want {
			t.Errorf("Next at %d of %v is %v %v %d, not %v %v %d", c.time, c.x, then, got, e, wantThen, wantNext, c.want)
		}
		if got, e := Again(s, c.time, 3, c.x); got != wantAgain || e != c.want {
			t.Errorf("Again at %d of %v is %v %d, not %v %d", c.time, c.x, got, e, wantAgain, c.want)
		}
		if got, e := Again(s, c.time, 4, c.x); got != (api.Entry{}) || e != api.ErrNone {
			t.Errorf("Again of what has come is %v %d", got, e)
		}
	}
}

// L2: behind the last number there is no next one.
func TestLast(t *testing.T) {
	for _, s := range []api.Stub{own(1, 61), own(1, 61, upTo(60)...), own(1, 61, 2)} {
		for _, x := range []api.Op{add(1), {}, {Kind: api.Get, N: 1}} {
			if then, got, e := Next(s, 7, x); !isNone(then) || got != (api.Entry{}) || e != api.ErrRange {
				t.Errorf("Next of %v is %v %v %d", s, then, got, e)
			}
		}
	}
	if got, e := Again(own(1, 61, upTo(59)...), 7, 60, add(1)); got != entry(7, 1, 60, 59, add(1)) || e != api.OK {
		t.Errorf("the last number again: %v %d", got, e)
	}
	if s, e := Came(own(1, 61, 1), 60); !same(s, own(1, 61, 1, 60)) || e != api.OK {
		t.Errorf("the last number has come: %v %d", s, e)
	}
}

// L2: Again of each number, ErrNone where it is not to be called again.
func TestAgain(t *testing.T) {
	for _, c := range []struct {
		s    api.Stub
		acks map[int]int
	}{
		{own(1, 1), nil},
		{own(1, 2), map[int]int{1: 0}},
		{own(1, 2, 1), nil},
		{own(2, 5, 1, 2, 4), map[int]int{3: 2}},
		{own(2, 5, 2, 3, 4), map[int]int{1: 0}},
		{own(2, 5, 2, 4), map[int]int{1: 0, 3: 0}},
		{own(2, 5, 1), map[int]int{2: 1, 3: 1, 4: 1}},
		{own(2, 5), map[int]int{1: 0, 2: 0, 3: 0, 4: 0}},
		{own(2, 5, 1, 2, 3, 4), nil},
	} {
		for seq := -2; seq < 70; seq++ {
			var want api.Entry
			wantE := api.ErrNone
			if ack, is := c.acks[seq]; is {
				want, wantE = entry(7, c.s.Client, seq, ack, add(1)), api.OK
			}
			if got, e := Again(c.s, 7, seq, add(1)); got != want || e != wantE {
				t.Errorf("Again of %v and %d is %v %d, not %v %d", c.s, seq, got, e, want, wantE)
			}
		}
	}
}

// L2: Came of each number.
func TestCame(t *testing.T) {
	s := own(2, 6, 2, 4)
	for seq, came := range map[int][]int{1: {1, 2, 4}, 2: {2, 4}, 3: {2, 3, 4}, 4: {2, 4}, 5: {2, 4, 5}} {
		if got, e := Came(s, seq); !same(got, own(2, 6, came...)) || e != api.OK {
			t.Errorf("Came of %d is %v %d, not %v", seq, got, e, came)
		}
	}
	for _, seq := range []int{0, 6, -1, 7, 61, 1 << 40, -1 << 63} {
		if got, e := Came(s, seq); !isNone(got) || e != api.ErrNone {
			t.Errorf("Came of %d is %v %d", seq, got, e)
		}
	}
	if got, e := Came(own(1, 1), 1); !isNone(got) || e != api.ErrNone {
		t.Errorf("nothing was called, and came: %v %d", got, e)
	}
}

// P2: what is handed in stays, its spare room too, and what comes out is apart from it.
func TestApart(t *testing.T) {
	room := []int{1, 3, -7, -8}
	s := api.Stub{Client: 2, Next: 5, Came: room[:2]}
	came, _ := Came(s, 2)
	was, _ := Came(s, 3)
	next, _, _ := Next(s, 7, add(1))
	if !reflect.DeepEqual(room, []int{1, 3, -7, -8}) {
		t.Errorf("the list is %v now", room)
	}
	room[0], room[1] = 8, 9
	if !same(came, own(2, 5, 1, 2, 3)) || !same(was, own(2, 5, 1, 3)) || !same(next, own(2, 6, 1, 3)) {
		t.Errorf("a change is seen: %v %v %v", came, was, next)
	}
}
