package twin

import (
	"reflect"
	"testing"

	"portage/api"
)

func kept() []api.Reply { return []api.Reply{{Seq: 1, Val: 7}, {Seq: 2, Val: 8}} }

func TestSession(t *testing.T) {
	s := api.Session{Client: 3, Acked: 0, Seen: 4, Kept: kept()}
	got := Session(s)
	if !reflect.DeepEqual(got, s) {
		t.Errorf("the twin of %v is %v", s, got)
	}
	s.Kept[0].Val = 99
	if !reflect.DeepEqual(got.Kept, kept()) {
		t.Errorf("a change is seen in the twin: %v", got)
	}
}

func TestState(t *testing.T) {
	s := api.State{At: 1, Clock: 5, Vals: [api.Keys]int{1, 2, 3, 4}, Table: []api.Session{{Client: 1, Kept: kept()}, {Client: 3, Seen: 4}}}
	want := api.State{At: 1, Clock: 5, Vals: [api.Keys]int{1, 2, 3, 4}, Table: []api.Session{{Client: 1, Kept: kept()}, {Client: 3, Seen: 4}}}
	got := State(s)
	if !reflect.DeepEqual(got, want) {
		t.Errorf("the twin of %v is %v", want, got)
	}
	s.Table[0].Kept[0].Val, s.Table[1].Client = 99, 5
	if !reflect.DeepEqual(got, want) {
		t.Errorf("a change is seen in the twin: %v", got)
	}
	if got := State(api.State{}); !reflect.DeepEqual(got, api.State{}) {
		t.Errorf("the twin of nothing is %v", got)
	}
}
