package stub

import (
	"math/rand"
	"testing"

	"portage/api"
	"portage/apply"
)

// client is the chapter once more, by a map: what the calls answer is held against it.
type client struct {
	id, next int
	came     map[int]bool
}

func (c client) stub() api.Stub {
	s := api.Stub{Client: c.id, Next: c.next}
	for n := range 99 {
		if c.came[n] {
			s.Came = append(s.Came, n)
		}
	}
	return s
}

func (c client) ack() int {
	n := 0
	for c.came[n+1] {
		n++
	}
	return n
}

func (c *client) call(t *testing.T, s api.Stub, time int, x api.Op) api.Stub {
	then, got, e := Next(s, time, x)
	if c.next > api.MaxSeq {
		if e != api.ErrRange {
			t.Fatalf("Next of %v is %v %v %d", s, then, got, e)
		}
		return s
	}
	want := api.Entry{Kind: api.Call, Time: time, Client: c.id, Seq: c.next, Ack: c.ack(), Op: x}
	c.next++
	if !same(then, c.stub()) || got != want || e != api.OK {
		t.Fatalf("Next of %v is %v %v %d, not %v %v", s, then, got, e, c.stub(), want)
	}
	return then
}

func (c *client) again(t *testing.T, s api.Stub, time, seq int, x api.Op) {
	got, e := Again(s, time, seq, x)
	if seq < 1 || seq >= c.next || c.came[seq] {
		if got != (api.Entry{}) || e != api.ErrNone {
			t.Fatalf("Again of %v and %d is %v %d", s, seq, got, e)
		}
		return
	}
	want := api.Entry{Kind: api.Call, Time: time, Client: c.id, Seq: seq, Ack: min(c.ack(), seq-1), Op: x}
	if got != want || e != api.OK || apply.Check(got) != api.OK {
		t.Fatalf("Again of %v and %d is %v %d, not %v", s, seq, got, e, want)
	}
}

func (c *client) answer(t *testing.T, s api.Stub, seq int) api.Stub {
	then, e := Came(s, seq)
	if seq < 1 || seq >= c.next {
		if !isNone(then) || e != api.ErrNone {
			t.Fatalf("Came of %v and %d is %v %d", s, seq, then, e)
		}
		return s
	}
	c.came[seq] = true
	if !same(then, c.stub()) || e != api.OK {
		t.Fatalf("Came of %v and %d is %v %d, not %v", s, seq, then, e, c.stub())
	}
	return then
}

// L1 and L2: a client's life, up to its last number.
func TestLife(t *testing.T) {
	r := rand.New(rand.NewSource(60))
	for i := range 100 {
		c := &client{id: 1 + r.Intn(api.Clients), next: 1, came: map[int]bool{}}
		s := c.stub()
		for range 300 {
			time, x := r.Intn(api.MaxTime+1), api.Op{Kind: api.Get, Key: r.Intn(api.Keys)}
			seq := c.ack() - 1 + r.Intn(4)
			if i%2 == 0 {
				seq = r.Intn(c.next + 2)
			}
			switch r.Intn(4) {
			case 0:
				s = c.call(t, s, time, x)
			case 1:
				c.again(t, s, time, seq, x)
			default:
				s = c.answer(t, s, seq)
			}
			if e := Check(s); e != api.OK {
				t.Fatalf("Check of %v is %d", s, e)
			}
		}
	}
}
