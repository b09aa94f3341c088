package twin

import (
	"reflect"
	"testing"

	"portage/api"
)

func kept() []api.Reply { return []api.Reply{{Seq: 1, Val: 7}, {Seq: 2, Val: 8}} }

func TestSession(t *testing.T) {
	s := api.Session{Client: 3, Acked: 0, Seen: 4, Kept: kept()}
	got := Session(s)
	if !reflect.DeepEqual(got, s) {
		t.Errorf("the twin of %v is %v", s, got)
	}
	s.Kept[0].Val = 99
	if !reflect.DeepEqual(got.Kept, kept()) {
		t.Errorf("a change is seen in the twin: %v", got)
	}
}

func TestState(t *testing.T) {
	s := api.State{At: 1, Clock: 5, Vals: [api.Keys]int{1, 2, 3, 4}, Table: []api.Session{{Client: 1, Kept: kept()}, {Client: 3, Seen: 4}}}
	want := api.State{At: 1, Clock: 5, Vals: [api.Keys]int{1, 2, 3, 4}, Table: []api.Session{{Client: 1, Kept: kept()}, {Client: 3, Seen: 4}}}
	got := State(s)
	if !reflect.DeepEqual(got, want) {
		t.Errorf("the twin of %v is %v", want, got)
	}
	s.Table[0].Kept[0].Val, s.Table[1].Client = 99, 5
	if !reflect.DeepEqual(got, want) {
		t.Errorf("a change is seen in the twin: %v", got)
	}
	if got := State(api.State{}); !reflect.DeepEqual(got, api.State{}) {
		t.Errorf("the twin of nothing is %v", got)
	}
}

func shop() api.State {
	return api.State{At: 1, Clock: 5, Table: []api.Session{{Client: 1, Kept: kept()}, {Client: 3, Seen: 4}}}
}

func list() []api.Entry {
	return []api.Entry{{Kind: api.Open, Client: 2}, {Kind: api.Close, Client: 3}}
}

func TestEntries(t *testing.T) {
	l := list()
	got := Entries(l)
	l[1].Client = 9
	if !reflect.DeepEqual(got, list()) {
		t.Errorf("the twin of %v is %v", list(), got)
	}
	if got := Entries(l[:0]); len(got) != 0 || cap(got) != 0 {
		t.Errorf("the twin of none is %v, with room for %d", got, cap(got))
	}
}

func TestLog(t *testing.T) {
	l, want := api.Log{Base: shop(), Tail: list()}, api.Log{Base: shop(), Tail: list()}
	got := Log(l)
	l.Tail[0].Client, l.Base.Table[0].Kept[0].Val, l.Base.Table[1].Client = 9, 99, 5
	if !reflect.DeepEqual(got, want) {
		t.Errorf("the twin of %v is %v", want, got)
	}
}

func TestGroup(t *testing.T) {
	full := func() api.Group {
		return api.Group{Log: api.Log{Base: shop(), Tail: list()}, Nodes: [api.Nodes]api.State{shop(), {At: 2}, shop()}}
	}
	g := full()
	got := Group(g)
	g.Log.Tail[0].Client, g.Log.Base.Table[0].Client = 9, 9
	for _, s := range []api.State{g.Nodes[0], g.Nodes[2]} {
		s.Table[0].Kept[0].Val, s.Table[1].Client = 99, 5
	}
	if !reflect.DeepEqual(got, full()) {
		t.Errorf("the twin of %v is %v", full(), got)
	}
}

func TestStub(t *testing.T) {
	s := api.Stub{Client: 2, Next: 5, Came: []int{1, 2, 4}}
	want := api.Stub{Client: 2, Next: 5, Came: []int{1, 2, 4}}
	got := Stub(s)
	if !reflect.DeepEqual(got, want) {
		t.Errorf("the twin of %v is %v", want, got)
	}
	s.Came[1] = 3
	if !reflect.DeepEqual(got, want) {
		t.Errorf("a change is seen in the twin: %v", got)
	}
	if got := Stub(api.Stub{}); !reflect.DeepEqual(got, api.Stub{}) {
		t.Errorf("the twin of nothing is %v", got)
	}
}
