package sess

import (
	"math"
	"reflect"
	"testing"

	"portage/api"
)

// row is a session of which two answers are kept; list has one for each client.
func row(client int) api.Session {
	return api.Session{Client: client, Acked: 2, Seen: 30, Kept: []api.Reply{{Seq: 3, Val: 7}, {Seq: 5, Val: api.Fail}}}
}

func list(clients ...int) []api.Session {
	var out []api.Session
	for _, c := range clients {
		out = append(out, row(c))
	}
	return out
}

// turned is a row of client 2 that was changed.
func turned(turn func(s *api.Session)) api.Session {
	s := row(2)
	turn(&s)
	return s
}

func kept(acked int, l ...api.Reply) api.Session {
	return api.Session{Client: 2, Acked: acked, Kept: l}
}

// B1: each session alone, as Check tells it, and as Put tells it of s.
func TestCheckOfOne(t *testing.T) {
	for _, c := range []struct {
		what string
		s    api.Session
		want api.Errno
	}{
		{"a row", row(2), api.OK},
		{"first client", row(1), api.OK},
		{"last client", row(5), api.OK},
		{"client below", row(0), api.ErrRange},
		{"client above", row(6), api.ErrRange},
		{"least client", row(math.MinInt), api.ErrRange},
		{"greatest client", row(math.MaxInt), api.ErrRange},
		{"acked 0", kept(0), api.OK},
		{"acked below", kept(-1), api.ErrRange},
		{"acked greatest", kept(60), api.OK},
		{"acked above", kept(61), api.ErrRange},
		{"acked near the end of numbers", kept(math.MaxInt, api.Reply{Seq: 1}), api.ErrRange},
		{"seen 0", turned(func(s *api.Session) { s.Seen = 0 }), api.OK},
		{"seen below", turned(func(s *api.Session) { s.Seen = -1 }), api.ErrRange},
		{"seen greatest", turned(func(s *api.Session) { s.Seen = 999 }), api.OK},
		{"seen above", turned(func(s *api.Session) { s.Seen = 1000 }), api.ErrRange},

		{"nothing kept", turned(func(s *api.Session) { s.Kept = nil }), api.OK},
		{"an empty list kept", turned(func(s *api.Session) { s.Kept = []api.Reply{} }), api.OK},
		{"all of the window", kept(2, api.Reply{Seq: 3}, api.Reply{Seq: 4}, api.Reply{Seq: 5}), api.OK},
		{"the last of the window", kept(2, api.Reply{Seq: 5}), api.OK},
		{"acked itself", kept(2, api.Reply{Seq: 2}), api.ErrForm},
		{"number 0", kept(0, api.Reply{Seq: 0}), api.ErrForm},
		{"least number", kept(0, api.Reply{Seq: math.MinInt}), api.ErrForm},
		{"behind the window", kept(2, api.Reply{Seq: 6}), api.ErrForm},
		{"greatest number", kept(2, api.Reply{Seq: math.MaxInt}), api.ErrForm},
		{"twice", kept(2, api.Reply{Seq: 3}, api.Reply{Seq: 3}), api.ErrForm},
		{"falling", kept(2, api.Reply{Seq: 4}, api.Reply{Seq: 3}), api.ErrForm},
		{"one more than the window", kept(2, api.Reply{Seq: 3}, api.Reply{Seq: 4}, api.Reply{Seq: 5}, api.Reply{Seq: 6}), api.ErrForm},
		{"up to the last number", kept(58, api.Reply{Seq: 59}, api.Reply{Seq: 60}), api.OK},
		{"behind the last number", kept(58, api.Reply{Seq: 61}), api.ErrForm},
		{"all acked, and one kept", kept(60, api.Reply{Seq: 61}), api.ErrForm},
		{"Fail kept", kept(2, api.Reply{Seq: 3, Val: api.Fail}), api.OK},
		{"Full kept", kept(2, api.Reply{Seq: 3, Val: api.Full}), api.ErrForm},
		{"greatest value kept", kept(2, api.Reply{Seq: 3, Val: 999}), api.OK},
		{"value above kept", kept(2, api.Reply{Seq: 3, Val: 1000}), api.ErrForm},
		{"value above kept last", kept(2, api.Reply{Seq: 3}, api.Reply{Seq: 4, Val: 1000}), api.ErrForm},

		{"range ahead of form", api.Session{Client: 2, Seen: 1000, Kept: []api.Reply{{Seq: 9}}}, api.ErrRange},
		{"range of client ahead of form", api.Session{Kept: []api.Reply{{Seq: 1, Val: -2}}}, api.ErrRange},
	} {
		if got := Check([]api.Session{c.s}); got != c.want {
			t.Errorf("%s: Check is %d, not %d", c.what, got, c.want)
		}
		out, e := Put(nil, c.s)
		if e != c.want {
			t.Errorf("%s: Put has error %d, not %d", c.what, e, c.want)
		}
		if e != api.OK && len(out) != 0 {
			t.Errorf("%s: Put has error %d, and %v", c.what, e, out)
		}
	}
}

func badForm(client int) api.Session {
	s := row(client)
	s.Kept[0].Val = 1000
	return s
}

// lists has lists right and wrong, with what Check says of them.
func lists() []struct {
	what string
	l    []api.Session
	want api.Errno
} {
	return []struct {
		what string
		l    []api.Session
		want api.Errno
	}{
		{"none", nil, api.OK},
		{"an empty one", []api.Session{}, api.OK},
		{"one", list(3), api.OK},
		{"three", list(1, 3, 5), api.OK},
		{"four", list(1, 2, 3, 4), api.ErrMany},
		{"twice", list(2, 2), api.ErrForm},
		{"last two twice", list(1, 4, 4), api.ErrForm},
		{"falling", list(4, 2), api.ErrForm},
		{"falling at last", list(1, 5, 3), api.ErrForm},
		{"many ahead of range", list(0, 0, 0, 0), api.ErrMany},
		{"many ahead of form", list(4, 3, 2, 1), api.ErrMany},
		{"range of the first", list(0, 2), api.ErrRange},
		{"range of the last", list(1, 2, 6), api.ErrRange},
		{"form of the last", []api.Session{row(1), row(2), badForm(3)}, api.ErrForm},
		{"range of one ahead of the order", list(4, 3, 6), api.ErrRange},
		{"form of the first ahead of range of the second", []api.Session{badForm(1), row(6)}, api.ErrForm},
		{"range of the first ahead of form of the second", []api.Session{row(0), badForm(2)}, api.ErrRange},
	}
}

// B1: lists.
func TestCheck(t *testing.T) {
	for _, c := range lists() {
		if got := Check(c.l); got != c.want {
			t.Errorf("%s: Check is %d, not %d", c.what, got, c.want)
		}
	}
}

// B1 and P1: the others tell Check's error first, and nothing with it.
func TestOthersCheckFirst(t *testing.T) {
	for _, c := range lists() {
		if c.want == api.OK {
			continue
		}
		if s, is, e := Find(c.l, 1); !reflect.DeepEqual(s, api.Session{}) || is || e != c.want {
			t.Errorf("%s: Find is %v %v %d, not %d", c.what, s, is, e, c.want)
		}
		for _, s := range []api.Session{row(1), row(0), badForm(1)} {
			if l, e := Put(c.l, s); len(l) != 0 || e != c.want {
				t.Errorf("%s: Put is %v %d, not %d", c.what, l, e, c.want)
			}
		}
		for _, client := range []int{1, 9} {
			if l, e := Drop(c.l, client); len(l) != 0 || e != c.want {
				t.Errorf("%s: Drop is %v %d, not %d", c.what, l, e, c.want)
			}
		}
		for _, clock := range []int{0, -1, 1000} {
			if l, e := Fresh(c.l, clock); len(l) != 0 || e != c.want {
				t.Errorf("%s: Fresh is %v %d, not %d", c.what, l, e, c.want)
			}
		}
	}
}

// B2: Find.
func TestFind(t *testing.T) {
	for _, client := range []int{1, 3, 5} {
		s, is, e := Find(list(1, 3, 5), client)
		if !reflect.DeepEqual(s, row(client)) || !is || e != api.OK {
			t.Errorf("client %d: %v %v %d", client, s, is, e)
		}
	}
	for _, client := range []int{math.MinInt, -1, 0, 2, 4, 6, math.MaxInt} {
		s, is, e := Find(list(1, 3, 5), client)
		if !reflect.DeepEqual(s, api.Session{}) || is || e != api.OK {
			t.Errorf("client %d: %v %v %d", client, s, is, e)
		}
	}
	if s, is, e := Find(nil, 1); !reflect.DeepEqual(s, api.Session{}) || is || e != api.OK {
		t.Errorf("of none: %v %v %d", s, is, e)
	}
}

// other is a session that tells itself from a row.
func other(client int) api.Session {
	return api.Session{Client: client, Acked: 7, Seen: 50, Kept: []api.Reply{{Seq: 8, Val: 1}}}
}

// B2: Put.
func TestPut(t *testing.T) {
	for _, c := range []struct {
		what string
		l    []api.Session
		s    api.Session
		want []api.Session
		e    api.Errno
	}{
		{"into none", nil, other(3), []api.Session{other(3)}, api.OK},
		{"into an empty one", []api.Session{}, other(3), []api.Session{other(3)}, api.OK},
		{"ahead of all", list(2, 4), other(1), []api.Session{other(1), row(2), row(4)}, api.OK},
		{"between", list(2, 4), other(3), []api.Session{row(2), other(3), row(4)}, api.OK},
		{"behind all", list(2, 4), other(5), []api.Session{row(2), row(4), other(5)}, api.OK},
		{"in the first place", list(2, 4), other(2), []api.Session{other(2), row(4)}, api.OK},
		{"in the last place", list(2, 4), other(4), []api.Session{row(2), other(4)}, api.OK},
		{"in place, all there may be", list(1, 3, 5), other(3), []api.Session{row(1), other(3), row(5)}, api.OK},
		{"one too many, ahead", list(2, 3, 4), other(1), nil, api.ErrMany},
		{"one too many, between", list(1, 2, 5), other(3), nil, api.ErrMany},
		{"one too many, behind", list(1, 2, 3), other(4), nil, api.ErrMany},
		{"a wrong one, though too many", list(1, 2, 3), badForm(4), nil, api.ErrForm},
		{"no such client, though too many", list(1, 2, 3), row(6), nil, api.ErrRange},
		{"a wrong one in place", list(1, 2, 3), badForm(2), nil, api.ErrForm},
	} {
		got, e := Put(c.l, c.s)
		if e != c.e || len(got) != len(c.want) || len(got) > 0 && !reflect.DeepEqual(got, c.want) {
			t.Errorf("%s: %v %d, not %v %d", c.what, got, e, c.want, c.e)
		}
	}
}

// B2: Drop.
func TestDrop(t *testing.T) {
	for _, c := range []struct {
		l      []api.Session
		client int
		want   []api.Session
		e      api.Errno
	}{
		{list(1, 3, 5), 1, list(3, 5), api.OK},
		{list(1, 3, 5), 3, list(1, 5), api.OK},
		{list(1, 3, 5), 5, list(1, 3), api.OK},
		{list(4), 4, nil, api.OK},
		{list(1, 3, 5), 2, nil, api.ErrNone},
		{list(1, 3, 5), 0, nil, api.ErrNone},
		{list(1, 3, 5), 6, nil, api.ErrNone},
		{list(1, 3, 5), math.MinInt, nil, api.ErrNone},
		{nil, 1, nil, api.ErrNone},
		{[]api.Session{}, 0, nil, api.ErrNone},
	} {
		got, e := Drop(c.l, c.client)
		if e != c.e || len(got) != len(c.want) || len(got) > 0 && !reflect.DeepEqual(got, c.want) {
			t.Errorf("Drop(%v, %d) is %v %d, not %v %d", c.l, c.client, got, e, c.want, c.e)
		}
	}
}

// seen is a list whose sessions were seen at these times, clients from 1 on.
func seen(times ...int) []api.Session {
	out := list(1, 2, 3)[:len(times)]
	for i, n := range times {
		out[i].Seen = n
	}
	return out
}

// B2: Fresh.
func TestFresh(t *testing.T) {
	for _, c := range []struct {
		l     []api.Session
		clock int
		want  []int
		e     api.Errno
	}{
		{seen(9, 10, 11), 29, []int{1, 2, 3}, api.OK},
		{seen(9, 10, 11), 30, []int{2, 3}, api.OK},
		{seen(11, 9, 10), 30, []int{1, 3}, api.OK},
		{seen(9, 10, 11), 31, []int{3}, api.OK},
		{seen(9, 10, 11), 32, nil, api.OK},
		{seen(0, 999, 40), 0, []int{1, 2, 3}, api.OK},
		{seen(0, 999, 40), 20, []int{1, 2, 3}, api.OK},
		{seen(0, 999, 40), 21, []int{2, 3}, api.OK},
		{seen(978, 979, 999), 999, []int{2, 3}, api.OK},
		{seen(9, 10, 11), -1, nil, api.ErrRange},
		{seen(9, 10, 11), 1000, nil, api.ErrRange},
		{seen(9, 10, 11), math.MinInt, nil, api.ErrRange},
		{seen(9, 10, 11), math.MaxInt, nil, api.ErrRange},
		{nil, 0, nil, api.OK},
		{[]api.Session{}, 999, nil, api.OK},
		{nil, -1, nil, api.ErrRange},
	} {
		got, e := Fresh(c.l, c.clock)
		var want []api.Session
		for _, client := range c.want {
			want = append(want, c.l[client-1])
		}
		if e != c.e || len(got) != len(want) || len(got) > 0 && !reflect.DeepEqual(got, want) {
			t.Errorf("Fresh(%v, %d) is %v %d, not %v %d", c.l, c.clock, got, e, want, c.e)
		}
	}
}

// roomy is a list with spare room behind it and behind what its sessions keep, in which something lies.
func roomy(clients ...int) []api.Session {
	l := append(list(clients...), row(5), row(5))
	for i := range l {
		k := append(l[i].Kept, api.Reply{Seq: 77, Val: 77}, api.Reply{Seq: 78, Val: 78})
		l[i].Kept = k[:len(k)-2]
	}
	return l[:len(clients)]
}

// whole is all of a list, the spare room too, as it is now.
func whole(l []api.Session) []api.Session {
	out := append([]api.Session(nil), l[:cap(l)]...)
	for i := range out {
		k := out[i].Kept
		out[i].Kept = append([]api.Reply(nil), k[:cap(k)]...)
	}
	return out
}

// spoil writes over all of a list, the spare room too.
func spoil(l []api.Session) {
	l = l[:cap(l)]
	for i := range l {
		k := l[i].Kept[:cap(l[i].Kept)]
		for j := range k {
			k[j] = api.Reply{Seq: -8, Val: -8}
		}
		l[i] = api.Session{Client: -9}
	}
}

// ways is each call that answers sessions, of a list and a session.
func ways() map[string]func(l []api.Session, s api.Session) []api.Session {
	return map[string]func(l []api.Session, s api.Session) []api.Session{
		"Find": func(l []api.Session, s api.Session) []api.Session {
			out, _, _ := Find(l, 2)
			return []api.Session{out}
		},
		"Put behind": func(l []api.Session, s api.Session) []api.Session {
			out, _ := Put(l, s)
			return out
		},
		"Put in place": func(l []api.Session, s api.Session) []api.Session {
			s.Client = 2
			out, _ := Put(l, s)
			return out
		},
		"Drop": func(l []api.Session, s api.Session) []api.Session {
			out, _ := Drop(l, 2)
			return out
		},
		"Fresh": func(l []api.Session, s api.Session) []api.Session {
			out, _ := Fresh(l, 40)
			return out
		},
		"Fresh of some": func(l []api.Session, s api.Session) []api.Session {
			l[0].Seen = 10
			out, _ := Fresh(l, 40)
			return out
		},
	}
}

// P2: what is handed in is only read, and not kept; P3: what was answered is the caller's, so the same call has the same answer again.
func TestMemory(t *testing.T) {
	for name, way := range ways() {
		l, s := roomy(2, 4), roomy(3)
		way(l, s[0])
		was, wasS := whole(l), whole(s)
		got := way(l, s[0])
		if len(got) == 0 {
			t.Fatalf("%s: nothing comes out", name)
		}
		if !reflect.DeepEqual(whole(l), was) || !reflect.DeepEqual(whole(s), wasS) {
			t.Errorf("%s: what was handed in has changed", name)
		}
		want := whole(way(l, s[0])[:len(got):len(got)])
		spoil(got)
		if !reflect.DeepEqual(whole(l), was) || !reflect.DeepEqual(whole(s), wasS) {
			t.Errorf("%s: the answer shares memory with what was handed in", name)
		}
		again := way(l, s[0])
		if !reflect.DeepEqual(whole(again[:len(again):len(again)]), want) {
			t.Errorf("%s: the same call has another answer", name)
		}
		spoil(l)
		spoil(s)
		if !reflect.DeepEqual(whole(again[:len(again):len(again)]), want) {
			t.Errorf("%s: what was handed in is seen in the answer", name)
		}
	}
}

// P2: no two lists of an answer share memory, though they did when they were handed in.
func TestListsApart(t *testing.T) {
	k := row(1).Kept
	l := []api.Session{{Client: 1, Acked: 2, Seen: 30, Kept: k}, {Client: 2, Acked: 2, Seen: 30, Kept: k}}
	s := api.Session{Client: 3, Acked: 2, Seen: 30, Kept: k}
	for name, way := range ways() {
		got := way(append([]api.Session(nil), l...), s)
		for i := range got {
			want := whole(got[:len(got):len(got)])
			a := append(got[i].Kept, api.Reply{Seq: -1, Val: -1})
			for j := range a {
				a[j] = api.Reply{Seq: -1, Val: -1}
			}
			now := whole(got[:len(got):len(got)])
			for j := range got {
				if j != i && !reflect.DeepEqual(now[j], want[j]) {
					t.Errorf("%s: the lists of %d and %d share memory", name, i, j)
				}
			}
		}
	}
}
