package state

import (
	"math"
	"reflect"
	"testing"

	"portage/api"
)

func row(client int) api.Session {
	return api.Session{Client: client, Acked: 2, Seen: 30, Kept: []api.Reply{{Seq: 3, Val: 7}, {Seq: 5, Val: api.Fail}}}
}

// shop is a right state with two sessions; turned is one that was changed.
func shop() api.State {
	return api.State{At: 6, Clock: 40, Vals: [api.Keys]int{7, 0, 0, 1}, Table: []api.Session{row(2), row(4)}}
}

func turned(turn func(s *api.State)) api.State {
	s := shop()
	turn(&s)
	return s
}

// C1: Begin.
func TestBegin(t *testing.T) {
	s := Begin()
	if s.At != 0 || s.Clock != 0 || s.Vals != ([api.Keys]int{}) || len(s.Table) != 0 {
		t.Errorf("Begin is %v", s)
	}
	if e := Check(s); e != api.OK {
		t.Errorf("Check of Begin is %d", e)
	}
	s.At, s.Vals[0], s.Table = 1, 1, append(s.Table, row(1))
	if !Same(Begin(), api.State{}) {
		t.Errorf("Begin is %v the second time", Begin())
	}
}

// C1: Check.
func TestCheck(t *testing.T) {
	for _, c := range []struct {
		what string
		turn func(s *api.State)
		want api.Errno
	}{
		{"a right one", func(s *api.State) {}, api.OK},
		{"nothing applied", func(s *api.State) { s.At = 0 }, api.OK},
		{"at below", func(s *api.State) { s.At = -1 }, api.ErrRange},
		{"at greatest", func(s *api.State) { s.At = 50 }, api.OK},
		{"at above", func(s *api.State) { s.At = 51 }, api.ErrRange},
		{"clock 0", func(s *api.State) { s.Clock, s.Table = 0, nil }, api.OK},
		{"clock below", func(s *api.State) { s.Clock, s.Table = -1, nil }, api.ErrRange},
		{"clock greatest", func(s *api.State) { s.Clock, s.Table = 999, nil }, api.OK},
		{"clock above", func(s *api.State) { s.Clock, s.Table = 1000, nil }, api.ErrRange},
		{"least clock", func(s *api.State) { s.Clock = math.MinInt }, api.ErrRange},
		{"greatest values", func(s *api.State) { s.Vals = [api.Keys]int{999, 999, 999, 999} }, api.OK},
		{"first value above", func(s *api.State) { s.Vals[0] = 1000 }, api.ErrRange},
		{"last value above", func(s *api.State) { s.Vals[3] = 1000 }, api.ErrRange},
		{"value below", func(s *api.State) { s.Vals[1] = -1 }, api.ErrRange},

		{"an empty table", func(s *api.State) { s.Table = []api.Session{} }, api.OK},
		{"no table", func(s *api.State) { s.Table = nil }, api.OK},
		{"all there may be", func(s *api.State) { s.Table = append(s.Table, row(5)) }, api.OK},
		{"too many", func(s *api.State) { s.Table = []api.Session{row(1), row(2), row(3), row(4)} }, api.ErrMany},
		{"no such client", func(s *api.State) { s.Table[1].Client = 6 }, api.ErrRange},
		{"twice", func(s *api.State) { s.Table[1].Client = 2 }, api.ErrForm},
		{"kept behind the window", func(s *api.State) { s.Table[0].Kept[1].Seq = 6 }, api.ErrForm},
		{"seen out of bounds", func(s *api.State) { s.Table[0].Seen = -1 }, api.ErrRange},

		{"seen now", func(s *api.State) { s.Clock = 30 }, api.OK},
		{"seen later", func(s *api.State) { s.Clock = 29 }, api.ErrForm},
		{"the last seen later", func(s *api.State) { s.Table[1].Seen = 41 }, api.ErrForm},
		{"seen just so long ago", func(s *api.State) { s.Clock = 50 }, api.OK},
		{"seen too long ago", func(s *api.State) { s.Clock = 51 }, api.ErrForm},
		{"the last seen too long ago", func(s *api.State) { s.Table[1].Seen = 19 }, api.ErrForm},

		{"range ahead of many", func(s *api.State) { s.At, s.Table = 51, make([]api.Session, 4) }, api.ErrRange},
		{"range ahead of form", func(s *api.State) { s.Vals[3], s.Table[1].Client = -1, 2 }, api.ErrRange},
		{"many ahead of seen", func(s *api.State) { s.Clock, s.Table = 29, make([]api.Session, 4) }, api.ErrMany},
		{"sessions' range ahead of seen", func(s *api.State) { s.Clock, s.Table[1].Acked = 29, 61 }, api.ErrRange},
		{"sessions' form ahead of a second one's range", func(s *api.State) { s.Table[0].Kept[0].Val, s.Table[1].Acked = -2, 61 }, api.ErrForm},
	} {
		if got := Check(turned(c.turn)); got != c.want {
			t.Errorf("%s: Check is %d, not %d", c.what, got, c.want)
		}
	}
}

// C1: Same; each change is told, be the state right or not.
func TestSame(t *testing.T) {
	turns := []func(s *api.State){
		func(s *api.State) {},
		func(s *api.State) { s.At = 7 },
		func(s *api.State) { s.At = -1 },
		func(s *api.State) { s.Clock = 41 },
		func(s *api.State) { s.Vals[0] = 8 },
		func(s *api.State) { s.Vals[3] = math.MinInt },
		func(s *api.State) { s.Table = nil },
		func(s *api.State) { s.Table = s.Table[:1] },
		func(s *api.State) { s.Table = append(s.Table, row(5)) },
		func(s *api.State) { s.Table = make([]api.Session, 9) },
		func(s *api.State) { s.Table[0], s.Table[1] = s.Table[1], s.Table[0] },
		func(s *api.State) { s.Table[0].Client = 1 },
		func(s *api.State) { s.Table[1].Client = 5 },
		func(s *api.State) { s.Table[1].Acked = 1 },
		func(s *api.State) { s.Table[1].Seen = 31 },
		func(s *api.State) { s.Table[1].Kept = nil },
		func(s *api.State) { s.Table[1].Kept = s.Table[1].Kept[:1] },
		func(s *api.State) { s.Table[1].Kept = append(s.Table[1].Kept, api.Reply{}) },
		func(s *api.State) { s.Table[1].Kept[1].Seq = 4 },
		func(s *api.State) { s.Table[1].Kept[1].Val = 0 },
	}
	for i, a := range turns {
		for j, b := range turns {
			if got := Same(turned(a), turned(b)); got != (i == j) {
				t.Errorf("Same of %v and %v is %v", turned(a), turned(b), got)
			}
		}
	}
}

// C1 and P2: lists without elements are the same, nil or not.
func TestSameEmpty(t *testing.T) {
	none := turned(func(s *api.State) { s.Table[0].Kept = nil })
	empty := turned(func(s *api.State) { s.Table[0].Kept = []api.Reply{} })
	if !Same(none, empty) || !Same(empty, none) {
		t.Errorf("none kept and an empty list are not the same")
	}
	if Check(none) != api.OK || Check(empty) != api.OK {
		t.Errorf("Check is %d of none, %d of an empty list", Check(none), Check(empty))
	}
	if !Same(Begin(), api.State{Table: []api.Session{}}) || !Same(api.State{Table: []api.Session{}}, Begin()) {
		t.Errorf("no table and an empty one are not the same")
	}
}

// P2 and P3: what is handed in is only read, and the same call has the same answer.
func TestOnlyRead(t *testing.T) {
	s := turned(func(s *api.State) { s.Table = append(s.Table, row(5), row(1))[:3] })
	was := turned(func(s *api.State) { s.Table = append(s.Table, row(5), row(1))[:3] })
	for range 2 {
		if e := Check(s); e != api.OK {
			t.Errorf("Check is %d", e)
		}
		if !Same(s, was) || Same(s, shop()) {
			t.Errorf("Same tells otherwise")
		}
	}
	if !reflect.DeepEqual(s, was) || !reflect.DeepEqual(s.Table[:4], was.Table[:4]) {
		t.Errorf("the state is %v, and was %v", s, was)
	}
}
