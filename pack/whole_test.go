package pack

import (
	"math/rand"
	"slices"
	"testing"

	"portage/api"
	"portage/fold"
	"portage/state"
)

func drawOp(r *rand.Rand) api.Op {
	x := api.Op{Kind: 1 + r.Intn(4), Key: r.Intn(4)}
	switch x.Kind {
	case api.Set:
		x.N = r.Intn(1000)
	case api.Add:
		x.N = r.Intn(600) - 300
	case api.Move:
		x.To, x.N = r.Intn(4), r.Intn(300)
	}
	return x
}

func drawEntry(r *rand.Rand, time int) api.Entry {
	e := api.Entry{Kind: 1 + r.Intn(2), Time: max(0, time-r.Intn(5)), Client: 1 + r.Intn(4)}
	if r.Intn(8) == 0 {
		e.Kind = api.Close
	}
	if e.Kind == api.Call {
		e.Seq = 1 + r.Intn(6)
		e.Ack, e.Op = r.Intn(e.Seq), drawOp(r)
	}
	return e
}

// drawList has so many entries; with wide, sessions grow too old between.
func drawList(r *rand.Rand, n, wide int) []api.Entry {
	var l []api.Entry
	time := 0
	for range n {
		time += r.Intn(wide)
		l = append(l, drawEntry(r, time))
	}
	return l
}

// H2: wherever a log is cut, and however often, the end is the same.
func TestSameEnd(t *testing.T) {
	r := rand.New(rand.NewSource(20))
	for i := range 100 {
		list := drawList(r, r.Intn(api.MaxLog+1), 2+3*(i%3))
		want, _, _ := fold.All(state.Begin(), list)
		for n := range len(list) + 1 {
			l, e := Cut(api.Log{Tail: list}, n)
			for e == api.OK && len(l.Tail) > 0 {
				wantEnd(t, l, want)
				l, e = Cut(l, 1+r.Intn(len(l.Tail)))
			}
			wantEnd(t, l, want)
			if e != api.OK || !state.Same(l.Base, want) {
				t.Fatalf("of %v, all packed: %v %d", list, l, e)
			}
		}
	}
}

func wantEnd(t *testing.T, l api.Log, want api.State) {
	t.Helper()
	if end, e := End(l); !state.Same(end, want) || e != api.OK {
		t.Fatalf("the end of %v is %v %d, not %v", l, end, e, want)
	}
}

// H1 and H2: what is put has the answers of fold.All, be there cuts between or not; and there is room for as many as if there were none.
func TestPutAndCut(t *testing.T) {
	r := rand.New(rand.NewSource(21))
	for i := range 100 {
		list := drawList(r, api.MaxLog, 2+3*(i%3))
		end, want, _ := fold.All(state.Begin(), list)
		var l api.Log
		var answers []int
		for _, x := range list {
			longer, answer, e := Put(l, x)
			if e != api.OK {
				t.Fatalf("Put of %v behind %v has error %d", x, l, e)
			}
			l, answers = longer, append(answers, answer)
			if r.Intn(3) == 0 {
				l, _ = Cut(l, r.Intn(len(l.Tail)+1))
			}
		}
		if !slices.Equal(answers, want) {
			t.Fatalf("of %v: answers %v, not %v", list, answers, want)
		}
		wantEnd(t, l, end)
		if _, _, e := Put(l, list[0]); e != api.ErrMany {
			t.Fatalf("one more than there may be has error %d", e)
		}
	}
}
