package trace

import (
	"math/rand"
	"testing"

	"portage/api"
	"portage/fold"
	"portage/op"
	"portage/state"
)

func drawOp(r *rand.Rand) api.Op {
	x := api.Op{Kind: 1 + r.Intn(4), Key: r.Intn(4)}
	switch x.Kind {
	case api.Set:
		x.N = r.Intn(1000)
	case api.Add:
		x.N = r.Intn(600) - 300
	case api.Move:
		x.To, x.N = r.Intn(4), r.Intn(300)
	}
	return x
}

// drawList has few clients and small numbers, so that much comes again; with wide, sessions grow too old between.
func drawList(r *rand.Rand, wide int) []api.Entry {
	var l []api.Entry
	time := 0
	for range r.Intn(api.MaxLog + 1) {
		time += r.Intn(wide)
		client := 1 + r.Intn(4)
		switch r.Intn(8) {
		case 0, 1:
			l = append(l, open(time, client))
		case 2:
			l = append(l, shut(max(0, time-r.Intn(5)), client))
		default:
			seq := 1 + r.Intn(6)
			l = append(l, call(max(0, time-r.Intn(5)), client, seq, r.Intn(seq), drawOp(r)))
		}
	}
	return l
}

// states are those ahead of each entry, and the last one.
func states(t *testing.T, l []api.Entry) []api.State {
	var out []api.State
	for k := range len(l) + 1 {
		s, _, e := fold.All(state.Begin(), l[:k])
		if e != api.OK {
			t.Fatalf("%v has error %d", l, e)
		}
		out = append(out, s)
	}
	return out
}

func find(s api.State, client int) (api.Session, bool) {
	for _, o := range s.Table {
		if o.Client == client {
			return o, true
		}
	}
	return api.Session{}, false
}

func keeps(s api.State, client, seq int) bool {
	o, _ := find(s, client)
	for _, k := range o.Kept {
		if k.Seq == seq {
			return true
		}
	}
	return false
}

// F1: an op was done, where an answer is kept that was not kept ahead: so it is told from the states alone.
func TestDoneByStates(t *testing.T) {
	r := rand.New(rand.NewSource(6))
	for i := range 400 {
		l := drawList(r, 2+3*(i%3))
		s := states(t, l)
		done, e := Done(l)
		if len(done) != len(l) || e != api.OK {
			t.Fatalf("of %v: %v %d", l, done, e)
		}
		for k, x := range l {
			want := keeps(s[k+1], x.Client, x.Seq) && !keeps(s[k], x.Client, x.Seq)
			if done[k] != want {
				t.Fatalf("of %v, entry %d: %v, not %v", l, k, done[k], want)
			}
		}
	}
}

// F1: the three tell the same.
func TestAlike(t *testing.T) {
	r := rand.New(rand.NewSource(7))
	for i := range 100 {
		l := drawList(r, 2+3*(i%3))
		done, _ := Done(l)
		ops, _ := Ops(l)
		count, n := map[[2]int]int{}, 0
		for k, x := range l {
			if !done[k] {
				continue
			}
			if n >= len(ops) || ops[n] != x.Op {
				t.Fatalf("of %v: Ops is %v", l, ops)
			}
			n++
			count[[2]int{x.Client, x.Seq}]++
		}
		if n != len(ops) {
			t.Fatalf("of %v: Ops is %v", l, ops)
		}
		for client := 1; client <= api.Clients; client++ {
			for seq := 1; seq <= 6; seq++ {
				if got, e := Once(l, client, seq); got != count[[2]int{client, seq}] || e != api.OK {
					t.Fatalf("of %v: Once of %d and %d is %d %d", l, client, seq, got, e)
				}
			}
		}
	}
}

// F2: the values come of the ops alone.
func TestValuesOfOps(t *testing.T) {
	r := rand.New(rand.NewSource(8))
	for i := range 400 {
		l := drawList(r, 2+3*(i%3))
		ops, e := Ops(l)
		var vals [api.Keys]int
		for _, x := range ops {
			then, _, f := op.Do(vals, x)
			if f != api.OK {
				t.Fatalf("%v has error %d", x, f)
			}
			vals = then
		}
		s, _, _ := fold.All(state.Begin(), l)
		if s.Vals != vals || e != api.OK {
			t.Fatalf("of %v: the ops have %v, error %d, the values are %v", l, vals, e, s.Vals)
		}
	}
}

// ends tells whether the session that a client had ahead of an entry is gone behind it, be there another one.
func ends(was, then api.State, client int) bool {
	o, is := find(was, client)
	_, still := find(then, client)
	return is && (!still || o.Seen < then.Clock-api.Life)
}

// F2: in one session's life each number is done once; by two of them it may be done twice.
func TestOnceALife(t *testing.T) {
	r := rand.New(rand.NewSource(9))
	twice := 0
	for i := range 400 {
		l := drawList(r, 2+3*(i%3))
		s := states(t, l)
		done, _ := Done(l)
		var life [api.Clients + 1]int
		count := map[[3]int]int{}
		for k, x := range l {
			for client := range life {
				if ends(s[k], s[k+1], client) {
					life[client]++
				}
			}
			if !done[k] {
				continue
			}
			if count[[3]int{x.Client, life[x.Client], x.Seq}]++; count[[3]int{x.Client, life[x.Client], x.Seq}] > 1 {
				t.Fatalf("of %v, entry %d: done twice in one life", l, k)
			}
			if n, _ := Once(l, x.Client, x.Seq); n > 1 {
				twice++
			}
		}
	}
	if twice == 0 {
		t.Errorf("no number was done by two sessions")
	}
}
