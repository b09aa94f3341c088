package node

import (
	"math/rand"
	"testing"

	"portage/api"
	"portage/fold"
	"portage/pack"
	"portage/state"
)

func drawOp(r *rand.Rand) api.Op {
	x := api.Op{Kind: 1 + r.Intn(4), Key: r.Intn(4)}
	switch x.Kind {
	case api.Set:
		x.N = r.Intn(1000)
	case api.Add:
		x.N = r.Intn(600) - 300
	case api.Move:
		x.To, x.N = r.Intn(4), r.Intn(300)
	}
	return x
}

func drawEntry(r *rand.Rand, time int) api.Entry {
	e := api.Entry{Kind: 1 + r.Intn(2), Time: max(0, time-r.Intn(5)), Client: 1 + r.Intn(4)}
	if r.Intn(8) == 0 {
		e.Kind = api.Close
	}
	if e.Kind == api.Call {
		e.Seq = 1 + r.Intn(6)
		e.Ack, e.Op = r.Intn(e.Seq), drawOp(r)
	}
	return e
}

// drawLog is a log that is cut somewhere, and the states behind each number of its entries, those that are packed too.
func drawLog(r *rand.Rand, wide int) (api.Log, []api.State) {
	var list []api.Entry
	states := []api.State{state.Begin()}
	time := 0
	for range r.Intn(api.MaxLog + 1) {
		time += r.Intn(wide)
		list = append(list, drawEntry(r, time))
		s, _, _ := fold.All(state.Begin(), list)
		states = append(states, s)
	}
	l, _ := pack.Cut(api.Log{Tail: list}, r.Intn(len(list)+1))
	return l, states
}

// I2: whoever fits, and runs to the end, by whatever steps, has the End; and it fits all the way.
func TestWhoeverFits(t *testing.T) {
	r := rand.New(rand.NewSource(30))
	for i := range 60 {
		l, states := drawLog(r, 2+3*(i%3))
		end, _ := pack.End(l)
		for k, s := range states {
			for all, n := 0, -1; n != 0; all += n {
				then, m, e := Run(l, s, 1+r.Intn(9))
				if is, f := Fits(l, then); !is || e != api.OK || f != api.OK {
					t.Fatalf("of %v: %v doesn't fit, errors %d %d", l, then, e, f)
				}
				wantSame(t, "a step of the log", then, states[max(k, l.Base.At)+all+m])
				s, n = then, m
			}
			wantSame(t, "what ran to the end", s, end)
		}
	}
}

// I1: of states of another log just those fit that lack entries of the base, or that are by chance the log's own; only these run.
func TestFitsOrNot(t *testing.T) {
	r := rand.New(rand.NewSource(31))
	fit, not := 0, 0
	for i := range 60 {
		l, states := drawLog(r, 2+3*(i%3))
		_, others := drawLog(r, 2)
		for _, s := range others {
			want := s.At < l.Base.At || s.At < len(states) && state.Same(s, states[s.At])
			is, e := Fits(l, s)
			if is != want || e != api.OK {
				t.Fatalf("of %v: Fits of %v is %v %d", l, s, is, e)
			}
			if _, _, e := Run(l, s, r.Intn(51)); (e == api.OK) != want || !want && e != api.ErrForm {
				t.Fatalf("of %v: Run of %v has error %d", l, s, e)
			}
			if is {
				fit++
			} else {
				not++
			}
		}
	}
	if fit == 0 || not == 0 {
		t.Errorf("%d fit, %d don't", fit, not)
	}
}
