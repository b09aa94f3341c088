package apply

import (
	"fmt"
	"math/rand"
	"testing"

	"portage/api"
	"portage/op"
)

// model is the chapter once more, by maps and without care for memory: what One answers is held against it.
type model struct {
	at, clock int
	vals      [api.Keys]int
	table     map[int]*chair
}

type chair struct {
	acked, seen int
	kept        map[int]int
}

func (m *model) one(e api.Entry) (int, bool) {
	m.at++
	if e.Time > m.clock {
		m.clock = e.Time
	}
	for c, s := range m.table {
		if m.clock-s.seen > 20 {
			delete(m.table, c)
		}
	}
	s := m.table[e.Client]
	switch {
	case e.Kind == api.Close && s == nil, e.Kind == api.Call && s == nil:
		return api.Lost, false
	case e.Kind == api.Close:
		delete(m.table, e.Client)
		return 0, false
	case e.Kind == api.Open && s == nil && len(m.table) == 3:
		return api.Full, false
	case e.Kind == api.Open && s == nil:
		m.table[e.Client] = &chair{0, m.clock, map[int]int{}}
		return 0, false
	}
	s.seen = m.clock
	if e.Kind == api.Open {
		return 0, false
	}
	return m.call(s, e)
}

func (m *model) call(s *chair, e api.Entry) (int, bool) {
	for s.acked < e.Ack {
		s.acked++
		delete(s.kept, s.acked)
	}
	if s.acked >= e.Seq {
		return api.Stale, false
	}
	if v, is := s.kept[e.Seq]; is {
		return v, false
	}
	if e.Seq-s.acked > 3 {
		return api.Far, false
	}
	vals, v, _ := op.Do(m.vals, e.Op)
	m.vals, s.kept[e.Seq] = vals, v
	return v, true
}

// text tells a model as textOf tells a state: by numbers that rise.
func (m *model) text() string {
	out := fmt.Sprint(m.at, m.clock, m.vals)
	for c := range 9 {
		if s := m.table[c]; s != nil {
			out += fmt.Sprint(" ", c, s.acked, s.seen)
			for n := range 99 {
				if v, is := s.kept[n]; is {
					out += fmt.Sprint(" ", n, "=", v)
				}
			}
		}
	}
	return out
}

func textOf(s api.State) string {
	out := fmt.Sprint(s.At, s.Clock, s.Vals)
	for _, r := range s.Table {
		out += fmt.Sprint(" ", r.Client, r.Acked, r.Seen)
		for _, k := range r.Kept {
			out += fmt.Sprint(" ", k.Seq, "=", k.Val)
		}
	}
	return out
}

func drawOp(r *rand.Rand) api.Op {
	x := api.Op{Kind: 1 + r.Intn(4), Key: r.Intn(4)}
	switch x.Kind {
	case api.Set:
		x.N = r.Intn(1000)
	case api.Add:
		x.N = r.Intn(600) - 300
	case api.Move:
		x.To, x.N = r.Intn(4), r.Intn(300)
	}
	return x
}

// drawEntry is an entry for a state: its numbers lie about those that its client has.
func drawEntry(r *rand.Rand, s api.State, wide int) api.Entry {
	e := api.Entry{Kind: 1 + r.Intn(3), Time: max(0, s.Clock+r.Intn(wide)-2), Client: 1 + r.Intn(5)}
	if e.Kind == api.Close && r.Intn(3) > 0 {
		e.Kind = api.Call
	}
	if e.Kind != api.Call {
		return e
	}
	acked := 0
	for _, o := range s.Table {
		if o.Client == e.Client {
			acked = o.Acked
		}
	}
	e.Seq = min(60, max(1, acked-1+r.Intn(6)))
	e.Ack = max(0, min(e.Seq-1, acked-1+r.Intn(4)))
	if r.Intn(40) == 0 {
		e.Seq = 55 + r.Intn(6)
		e.Ack = e.Seq - 1 - r.Intn(5)
	}
	e.Op = drawOp(r)
	return e
}

// D2: behind each of many entries state and answer are the model's.
func TestOneAgainstModel(t *testing.T) {
	r := rand.New(rand.NewSource(4))
	count := map[int]int{}
	again := 0
	for i := range 400 {
		s, m := api.State{}, &model{table: map[int]*chair{}}
		for range api.MaxLog {
			e := drawEntry(r, s, 3+4*(i%3))
			then, n, is, f := One(s, e)
			wantN, wantIs := m.one(e)
			if f != api.OK || n != wantN || is != wantIs || textOf(then) != m.text() {
				t.Fatalf("of %v and %v: %s %d %v %d, not %s %d %v", s, e, textOf(then), n, is, f, m.text(), wantN, wantIs)
			}
			if count[min(n, 0)]++; e.Kind == api.Call && !is && n >= api.Fail {
				again++
			}
			s = then
		}
	}
	for _, n := range []int{0, api.Fail, api.Full, api.Lost, api.Stale, api.Far} {
		if count[n] == 0 {
			t.Errorf("the answer %d never came", n)
		}
	}
	if again == 0 {
		t.Errorf("no answer came again")
	}
}

// D2: a call that comes again, whatever came between, is not done again and has the same answer, as long as its session lives and it isn't acknowledged.
func TestAskedTwice(t *testing.T) {
	r := rand.New(rand.NewSource(5))
	for range 300 {
		s, _, _, _ := One(api.State{}, open(0, 1))
		e := call(1, 1, 1+r.Intn(3), 0, drawOp(r))
		s, first, is, _ := One(s, e)
		if !is {
			t.Fatalf("%v was not done", e)
		}
		for range api.MaxLog - 3 {
			o := drawEntry(r, s, 4)
			if o.Kind == api.Close && o.Client == 1 || o.Kind == api.Call && o.Client == 1 && o.Ack >= e.Seq || o.Time > 20 {
				continue
			}
			s, _, _, _ = One(s, o)
		}
		e.Time, e.Op = 20, drawOp(r)
		then, n, is, f := One(s, e)
		if n != first || is || f != api.OK || then.Vals != s.Vals {
			t.Fatalf("%v again: %d %v %d, and it was %d", e, n, is, f, first)
		}
	}
}
