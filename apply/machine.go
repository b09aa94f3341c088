package apply

import (
	"cmp"
	"slices"

	"portage/api"
	"portage/op"
	"portage/sess"
)

// machine applies entries to its state. What it has was checked, so that of the errors of sessions and ops only those can come that are answers.
type machine struct{ *api.State }

// tick comes ahead of what an entry asks: a session that is too old then is gone, even if the entry is its own. The table is the machine's own from here on.
func (m machine) tick(time int) {
	m.At++
	m.Clock = max(m.Clock, time)
	m.Table, _ = sess.Fresh(m.Table, m.Clock)
}

func (m machine) take(e api.Entry) (int, bool) {
	switch e.Kind {
	case api.Open:
		return m.open(e.Client), false
	case api.Close:
		return m.close(e.Client), false
	}
	return m.call(e)
}

func (m machine) open(client int) int {
	s, _, _ := sess.Find(m.Table, client)
	s.Client, s.Seen = client, m.Clock
	table, e := sess.Put(m.Table, s)
	if e != api.OK {
		return api.Full
	}
	m.Table = table
	return 0
}

func (m machine) close(client int) int {
	table, e := sess.Drop(m.Table, client)
	if e != api.OK {
		return api.Lost
	}
	m.Table = table
	return 0
}

func (m machine) call(e api.Entry) (int, bool) {
	s, is, _ := sess.Find(m.Table, e.Client)
	if !is {
		return api.Lost, false
	}
	s.Seen = m.Clock
	s.Acked = max(s.Acked, e.Ack)
	s.Kept = slices.DeleteFunc(s.Kept, func(r api.Reply) bool { return r.Seq <= s.Acked })
	answer, done := m.answer(&s, e)
	m.Table, _ = sess.Put(m.Table, s)
	return answer, done
}

// answer asks for what is kept ahead of all else but Stale, so that no op is done again.
func (m machine) answer(s *api.Session, e api.Entry) (int, bool) {
	if e.Seq <= s.Acked {
		return api.Stale, false
	}
	at, is := slices.BinarySearchFunc(s.Kept, e.Seq, func(r api.Reply, seq int) int { return cmp.Compare(r.Seq, seq) })
	if is {
		return s.Kept[at].Val, false
	}
	if e.Seq > s.Acked+api.Window {
		return api.Far, false
	}
	vals, answer, _ := op.Do(m.Vals, e.Op)
	m.Vals = vals
	s.Kept = slices.Insert(s.Kept, at, api.Reply{Seq: e.Seq, Val: answer})
	return answer, true
}
