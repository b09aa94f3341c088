package promises

import (
	"math/rand"
	"testing"

	"portage/api"
	"portage/group"
	"portage/stub"
)

// world is a group, and clients that call it by messages that come late, twice, in another order, or not at all; and so do the answers.
type world struct {
	t       *testing.T
	r       *rand.Rand
	g       api.Group
	all     []api.Entry
	answers []int
	stubs   []api.Stub
	flight  []api.Entry
	asked   map[[2]int]api.Op
	moves   bool
}

const users = 3

// newWorld: each client has its session; what is counted from here on was put behind them.
func newWorld(t *testing.T, r *rand.Rand, moves bool) *world {
	w := &world{t: t, r: r, g: group.Begin(), asked: map[[2]int]api.Op{}, moves: moves}
	for c := 1; c <= users; c++ {
		w.put(open(0, c))
		w.stubs = append(w.stubs, api.Stub{Client: c, Next: 1})
	}
	return w
}

func (w *world) put(e api.Entry) int {
	g, answer, f := group.Put(w.g, e)
	if f != api.OK {
		w.t.Fatalf("Put of %v: error %d", e, f)
	}
	w.g, w.all, w.answers = g, append(w.all, e), append(w.answers, answer)
	return answer
}

func (w *world) drawOp() api.Op {
	x := api.Op{Kind: 1 + w.r.Intn(4), Key: w.r.Intn(api.Keys)}
	if x.Kind == api.Move && !w.moves {
		x.Kind = api.Add
	}
	switch x.Kind {
	case api.Set:
		x.N = w.r.Intn(1000)
	case api.Add:
		x.N = w.r.Intn(600) - 300
	case api.Move:
		x.To, x.N = w.r.Intn(api.Keys), w.r.Intn(300)
	}
	return x
}

// send is a client's next call, or one that it calls again.
func (w *world) send(time int) {
	i := w.r.Intn(users)
	s := w.stubs[i]
	seq := 1 + w.r.Intn(s.Next)
	x, is := w.asked[[2]int{s.Client, seq}]
	if c, e := stub.Again(s, time, seq, x); is && e == api.OK {
		w.flight = append(w.flight, c)
		return
	}
	x = w.drawOp()
	then, c, e := stub.Next(s, time, x)
	if e != api.OK {
		w.t.Fatalf("Next of %v: error %d", s, e)
	}
	w.asked[[2]int{s.Client, s.Next}] = x
	w.stubs[i], w.flight = then, append(w.flight, c)
}

// deliver brings a message, which may come once more later on, and its answer, if that is not lost.
func (w *world) deliver() {
	i := w.r.Intn(len(w.flight))
	c := w.flight[i]
	if w.r.Intn(2) == 0 {
		w.flight = append(w.flight[:i:i], w.flight[i+1:]...)
	}
	answer := w.put(c)
	if answer < api.Fail || w.r.Intn(3) == 0 {
		return
	}
	then, e := stub.Came(w.stubs[c.Client-1], c.Seq)
	if e != api.OK {
		w.t.Fatalf("Came of %v and %d: error %d", w.stubs[c.Client-1], c.Seq, e)
	}
	w.stubs[c.Client-1] = then
}

// live fills the log. If no session ends, the time is never so late that one would be too old; else they grow old, are closed, and opened anew.
func (w *world) live(wide int, ends bool) {
	time, last := 0, api.Life
	if ends {
		last = api.MaxTime
	}
	for i := 0; len(w.all) < api.MaxLog; i++ {
		if i%3 == 0 {
			time = min(time+w.r.Intn(wide), last)
		}
		switch {
		case ends && w.r.Intn(8) == 0:
			w.put(open(time, 1+w.r.Intn(users)))
		case ends && w.r.Intn(16) == 0:
			w.put(shut(time, 1+w.r.Intn(users)))
		case len(w.flight) == 0 || w.r.Intn(2) == 0:
			w.send(time)
		default:
			w.deliver()
		}
		w.stir()
	}
}

// stir has nodes run, and cuts the log.
func (w *world) stir() {
	if w.r.Intn(2) == 0 {
		g, _, e := group.Run(w.g, w.r.Intn(api.Nodes), w.r.Intn(4))
		if e != api.OK {
			w.t.Fatalf("Run: error %d", e)
		}
		w.g = g
	}
	if w.r.Intn(8) == 0 {
		g, e := group.Cut(w.g, w.r.Intn(len(w.g.Log.Tail)+1))
		if e != api.OK {
			w.t.Fatalf("Cut: error %d", e)
		}
		w.g = g
	}
}
