package group

import (
	"math/rand"
	"testing"

	"portage/api"
	"portage/fold"
	"portage/pack"
	"portage/state"
)

func drawEntry(r *rand.Rand, time int) api.Entry {
	e := api.Entry{Kind: 1 + r.Intn(2), Time: max(0, time-r.Intn(5)), Client: 1 + r.Intn(4)}
	if r.Intn(8) == 0 {
		e.Kind = api.Close
	}
	if e.Kind == api.Call {
		e.Seq = 1 + r.Intn(6)
		e.Ack, e.Op = r.Intn(e.Seq), api.Op{Kind: api.Add, Key: r.Intn(api.Keys), N: r.Intn(300) - 100}
	}
	return e
}

// step is something that is done to a group; put tells whether it was put to its log.
func step(r *rand.Rand, g api.Group, e api.Entry) (then api.Group, answer int, put bool, f api.Errno) {
	switch r.Intn(6) {
	case 0:
		then, f = Cut(g, r.Intn(len(g.Log.Tail)+1))
	case 1, 2:
		then, _, f = Run(g, r.Intn(api.Nodes), r.Intn(6))
	default:
		then, answer, f = Put(g, e)
		put = true
	}
	return
}

// wantNodes: each node is what comes of as many of the entries that were put, from the beginning on: so two that have applied as much are the same.
func wantNodes(t *testing.T, g api.Group, list []api.Entry) {
	t.Helper()
	if e := Check(g); e != api.OK {
		t.Fatalf("%v has error %d", g, e)
	}
	for i, s := range g.Nodes {
		want, _, _ := fold.All(state.Begin(), list[:s.At])
		if !state.Same(s, want) {
			t.Fatalf("of %v: node %d is %v, not %v", list, i, s, want)
		}
		for _, o := range g.Nodes[:i] {
			if o.At == s.At && !state.Same(o, s) {
				t.Fatalf("%v and %v have applied as much", o, s)
			}
		}
	}
}

// J1 and J2: whatever is done to a group from Begin on, it is right all the way, and two nodes that have applied as much are the same.
func TestAsMuch(t *testing.T) {
	r := rand.New(rand.NewSource(40))
	alike := 0
	for i := range 60 {
		g := Begin()
		var list []api.Entry
		var answers []int
		for time := 0; len(list) < api.MaxLog; time += r.Intn(2 + 3*(i%3)) {
			e := drawEntry(r, time)
			then, answer, put, f := step(r, g, e)
			if f != api.OK {
				t.Fatalf("of %v: error %d", g, f)
			}
			if g = then; put {
				list, answers = append(list, e), append(answers, answer)
			}
			wantNodes(t, g, list)
			if g.Nodes[0].At > 0 && g.Nodes[0].At == g.Nodes[1].At {
				alike++
			}
		}
		end, want, _ := fold.All(state.Begin(), list)
		for k := range want {
			if answers[k] != want[k] {
				t.Fatalf("of %v: answers %v, not %v", list, answers, want)
			}
		}
		if got, e := pack.End(g.Log); !state.Same(got, end) || e != api.OK {
			t.Fatalf("of %v: the end is %v %d, not %v", list, got, e, end)
		}
	}
	if alike == 0 {
		t.Errorf("no two have applied as much")
	}
}
