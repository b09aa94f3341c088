package promises

import (
	"fmt"
	"math/rand"
	"slices"
	"testing"

	"portage/api"
	"portage/apply"
	"portage/desk"
	"portage/fold"
	"portage/group"
	"portage/log"
	"portage/op"
	"portage/pack"
	"portage/snap"
	"portage/state"
	"portage/trace"
)

// eachWorld goes through worlds in which no session ends, and such in which some do.
func eachWorld(t *testing.T, check func(w *world, ends bool)) {
	r := rand.New(rand.NewSource(80))
	for i := range 60 {
		w := newWorld(t, r, i%2 == 0)
		ends := i%3 > 0
		w.live(2+4*(i%3), ends)
		check(w, ends)
	}
}

// begun is the state behind the first n entries.
func (w *world) begun(n int) api.State {
	s, _, e := fold.All(state.Begin(), w.all[:n])
	if e != api.OK {
		w.t.Fatalf("%v has error %d", w.all[:n], e)
	}
	return s
}

func sum(vals [api.Keys]int) int {
	out := 0
	for _, v := range vals {
		out += v
	}
	return out
}

// The whole: what is moved is nowhere lost; the values come of the ops alone.
func TestWholeValues(t *testing.T) {
	moved := 0
	eachWorld(t, func(w *world, _ bool) {
		ops, _ := trace.Ops(w.all)
		var vals [api.Keys]int
		for _, x := range ops {
			then, _, e := op.Do(vals, x)
			if e != api.OK || x.Kind == api.Move && sum(then) != sum(vals) {
				t.Fatalf("%v of %v is %v %d", x, vals, then, e)
			}
			if then != vals && x.Kind == api.Move {
				moved++
			}
			vals = then
		}
		if end := w.begun(len(w.all)); end.Vals != vals {
			t.Fatalf("of %v: the ops have %v, the values are %v", w.all, vals, end.Vals)
		}
	})
	if moved == 0 {
		t.Errorf("nothing was moved")
	}
}

// lives counts a client's sessions up to each entry: one ends, where it is gone, or too old when the next one is opened.
func (w *world) lives(client int) []int {
	var out []int
	life := 0
	for i := range w.all {
		was, then := w.begun(i), w.begun(i+1)
		o, is := session(was, client)
		if _, still := session(then, client); is && (!still || o.Seen < then.Clock-api.Life) {
			life++
		}
		out = append(out, life)
	}
	return out
}

func session(s api.State, client int) (api.Session, bool) {
	i := slices.IndexFunc(s.Table, func(o api.Session) bool { return o.Client == client })
	if i < 0 {
		return api.Session{}, false
	}
	return s.Table[i], true
}

// kept is the answer that a state keeps.
func kept(s api.State, client, seq int) (int, bool) {
	o, _ := session(s, client)
	i := slices.IndexFunc(o.Kept, func(k api.Reply) bool { return k.Seq == seq })
	if i < 0 {
		return 0, false
	}
	return o.Kept[i].Val, true
}

// The whole: a call that comes again is not done again, and has the same answer; its answer is kept as long as it is not acknowledged, and its session lives; a number is done twice only by two sessions.
func TestWholeOnce(t *testing.T) {
	again, twice := 0, 0
	eachWorld(t, func(w *world, _ bool) {
		done, _ := trace.Done(w.all)
		for client := 1; client <= users; client++ {
			lives, was := w.lives(client), map[[2]int]int{}
			for i, e := range w.all {
				if e.Kind != api.Call || e.Client != client || w.answers[i] < api.Fail {
					continue
				}
				first, is := was[[2]int{lives[i], e.Seq}]
				if is == done[i] || is && first != w.answers[i] {
					t.Fatalf("of %v, entry %d: done %v, answer %d, ahead of it %v %d", w.all, i, done[i], w.answers[i], is, first)
				}
				if is {
					again++
				}
				was[[2]int{lives[i], e.Seq}] = w.answers[i]
				w.wantKept(i, lives)
			}
			for seq := 1; seq <= api.MaxSeq; seq++ {
				if n, _ := trace.Once(w.all, client, seq); n > 1 {
					twice++
				}
			}
		}
	})
	if again == 0 || twice == 0 {
		t.Errorf("%d came again, %d were done by two sessions", again, twice)
	}
}

// wantKept: behind a call that has an answer, that one is kept, as long as it is to be.
func (w *world) wantKept(i int, lives []int) {
	e := w.all[i]
	for k := i; k < len(w.all); k++ {
		s := w.begun(k + 1)
		o, is := session(s, e.Client)
		if !is || lives[k] != lives[i] || o.Acked >= e.Seq {
			return
		}
		if v, has := kept(s, e.Client, e.Seq); !has || v != w.answers[i] {
			w.t.Fatalf("of %v: behind entry %d the answer to entry %d is %d %v, not %d", w.all, k, i, v, has, w.answers[i])
		}
	}
}

// The whole: however often a client calls again, each number whose answer has come was done once.
func TestWholeClients(t *testing.T) {
	came, calls, told := 0, 0, 0
	eachWorld(t, func(w *world, ends bool) {
		if ends {
			return
		}
		var numbers []string
		for _, s := range w.stubs {
			for _, seq := range s.Came {
				if n, e := trace.Once(w.all, s.Client, seq); n != 1 || e != api.OK {
					t.Fatalf("of %v: number %d of %d was done %d times, error %d", w.all, seq, s.Client, n, e)
				}
				numbers = append(numbers, fmt.Sprint(s.Client, " ", seq))
			}
			for seq := 1; seq < s.Next; seq++ {
				if n, _ := trace.Once(w.all, s.Client, seq); n > 1 {
					t.Fatalf("of %v: number %d of %d was done %d times", w.all, seq, s.Client, n)
				}
			}
		}
		came, calls = came+len(numbers), calls+len(w.all)-users
		if !w.moves {
			w.wantDesk(numbers)
			told++
		}
	})
	if came == 0 || calls <= came || told == 0 {
		t.Errorf("%d answers have come, of %d calls; %d times the desk was asked", came, calls, told)
	}
}

// wantDesk: the desk, which has no word for moves, gives the same answers, and tells of the first numbers that each was done once.
func (w *world) wantDesk(numbers []string) {
	script, want := "", ""
	for i, e := range w.all {
		want += fmt.Sprintln(w.answers[i])
		if e.Kind == api.Open {
			script += fmt.Sprintf("open %d %d\n", e.Time, e.Client)
			continue
		}
		word := []string{api.Set: "set", api.Add: "add", api.Get: "get"}[e.Op.Kind]
		script += fmt.Sprintf("call %d %d %d %d %s %d %d\n", e.Time, e.Client, e.Seq, e.Ack, word, e.Op.Key, e.Op.N)
	}
	for _, n := range numbers[:min(len(numbers), api.MaxActs-api.MaxLog)] {
		script, want = script+"done "+n+"\n", want+"1\n"
	}
	if got, e := desk.Play(script); got != want || e != api.OK {
		w.t.Fatalf("%q gives %q %d, not %q", script, got, e, want)
	}
}

// The whole: what was written and read goes on as it would have; what is written is read as it was.
func TestWholeBytes(t *testing.T) {
	eachWorld(t, func(w *world, _ bool) {
		all := ""
		for _, e := range w.all {
			b, f := log.Write(e)
			if f != api.OK {
				t.Fatalf("Write of %v: error %d", e, f)
			}
			all += b
		}
		list, n, e := log.Replay(all)
		if !slices.Equal(list, w.all) || n != len(all) || e != api.OK {
			t.Fatalf("%v is read as %v %d %d", w.all, list, n, e)
		}
		s := state.Begin()
		for i, x := range list {
			then, answer, _, e := apply.One(s, x)
			b, f := snap.Write(then)
			read, g := snap.Read(b)
			if e != api.OK || f != api.OK || g != api.OK || answer != w.answers[i] || !state.Same(then, read) {
				t.Fatalf("of %v, entry %d: %v %d, answer %d, errors %d %d %d", list, i, then, read, answer, e, f, g)
			}
			s = read
		}
		if !state.Same(s, w.begun(len(w.all))) {
			t.Fatalf("of %v: the end is %v", w.all, s)
		}
	})
}

// The whole: wherever a log is cut, the end is the same; who runs to the end has the end; two that have applied as much are the same.
func TestWholeEnd(t *testing.T) {
	eachWorld(t, func(w *world, _ bool) {
		want := w.begun(len(w.all))
		if end, e := pack.End(w.g.Log); !state.Same(end, want) || e != api.OK {
			t.Fatalf("of %v: the end is %v %d, not %v", w.all, end, e, want)
		}
		for i, s := range w.g.Nodes {
			if !state.Same(s, w.begun(s.At)) {
				t.Fatalf("of %v: node %d is %v", w.all, i, s)
			}
			g, _, e := group.Run(w.g, i, api.MaxLog)
			if !state.Same(g.Nodes[i], want) || e != api.OK {
				t.Fatalf("of %v: node %d has %v %d, not %v", w.all, i, g.Nodes[i], e, want)
			}
		}
	})
}
