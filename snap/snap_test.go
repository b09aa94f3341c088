package snap

import (
	"reflect"
	"strings"
	"testing"

	"portage/api"
	"portage/state"
)

func row(client int) api.Session {
	return api.Session{Client: client, Acked: 2, Seen: 9, Kept: []api.Reply{{Seq: 3, Val: 7}, {Seq: 5, Val: api.Fail}}}
}

// shop is a right state with two sessions, shopBytes are its bytes.
func shop() api.State {
	return api.State{At: 6, Clock: 10, Vals: [api.Keys]int{7, 0, 0, 1}, Table: []api.Session{row(2), row(4)}}
}

const (
	shopHead  = "\x06\x00\x0a\x00\x07\x00\x00\x00\x00\x00\x01"
	rowTail   = "\x02\x00\x09\x02\x03\x00\x08\x05\x00\x00"
	shopBytes = shopHead + "\x02\x02" + rowTail + "\x04" + rowTail
)

// last has the greatest numbers there are, lastBytes are its bytes.
func last() api.State {
	kept := func() []api.Reply {
		return []api.Reply{{Seq: 58, Val: 999}, {Seq: 59, Val: 0}, {Seq: 60, Val: -1}}
	}
	return api.State{At: 50, Clock: 999, Vals: [api.Keys]int{999, 256, 255, 998}, Table: []api.Session{
		{Client: 3, Acked: 57, Seen: 979, Kept: kept()}, {Client: 4, Acked: 57, Seen: 999, Kept: kept()}, {Client: 5, Acked: 60, Seen: 980},
	}}
}

const (
	keptBytes = "\x03\x3a\x03\xe8\x3b\x00\x01\x3c\x00\x00"
	lastBytes = "\x32\x03\xe7\x03\xe7\x01\x00\x00\xff\x03\xe6\x03" +
		"\x03\x39\x03\xd3" + keptBytes + "\x04\x39\x03\xe7" + keptBytes + "\x05\x3c\x03\xd4\x00"
)

// G1: bytes, written and read.
func TestBytes(t *testing.T) {
	bare := shop()
	bare.Table = []api.Session{{Client: 1, Seen: 10, Kept: []api.Reply{}}}
	for _, c := range []struct {
		what string
		s    api.State
		b    string
	}{
		{"the beginning", state.Begin(), strings.Repeat("\x00", 12)},
		{"an empty table", api.State{Table: []api.Session{}}, strings.Repeat("\x00", 12)},
		{"example 7", shop(), shopBytes},
		{"the greatest", last(), lastBytes},
		{"nothing is kept", bare, shopHead + "\x01\x01\x00\x00\x0a\x00"},
	} {
		if b, e := Write(c.s); b != c.b || e != api.OK {
			t.Errorf("%s: Write is %q %d, not %q", c.what, b, e, c.b)
		}
		if s, e := Read(c.b); !state.Same(s, c.s) || e != api.OK {
			t.Errorf("%s: Read is %v %d, not %v", c.what, s, e, c.s)
		}
	}
	if len(shopBytes) != 34 {
		t.Errorf("example 7 has %d bytes", len(shopBytes))
	}
}

// G1 and P1: Write tells state.Check's errors, and no bytes with them.
func TestWriteErrors(t *testing.T) {
	for _, c := range []struct {
		what string
		turn func(s *api.State)
		want api.Errno
	}{
		{"at below", func(s *api.State) { s.At = -1 }, api.ErrRange},
		{"at above", func(s *api.State) { s.At = 51 }, api.ErrRange},
		{"at a byte round", func(s *api.State) { s.At = 256 }, api.ErrRange},
		{"clock above", func(s *api.State) { s.Clock = 1000 }, api.ErrRange},
		{"clock two bytes round", func(s *api.State) { s.Clock = 1<<16 + 10 }, api.ErrRange},
		{"value above", func(s *api.State) { s.Vals[3] = 1000 }, api.ErrRange},
		{"value below", func(s *api.State) { s.Vals[0] = -1 }, api.ErrRange},
		{"too many sessions", func(s *api.State) { s.Table = make([]api.Session, 4) }, api.ErrMany},
		{"a byte round of sessions", func(s *api.State) { s.Table = make([]api.Session, 256) }, api.ErrMany},
		{"no such client", func(s *api.State) { s.Table[1].Client = 6 }, api.ErrRange},
		{"acked above", func(s *api.State) { s.Table[1].Acked = 61 }, api.ErrRange},
		{"a client twice", func(s *api.State) { s.Table[1].Client = 2 }, api.ErrForm},
		{"seen later", func(s *api.State) { s.Clock = 8 }, api.ErrForm},
		{"seen too long ago", func(s *api.State) { s.Clock = 30 }, api.ErrForm},
		{"a number twice", func(s *api.State) { s.Table[0].Kept[0].Seq = 5 }, api.ErrForm},
		{"an answer that is not kept", func(s *api.State) { s.Table[0].Kept[1].Val = api.Full }, api.ErrForm},
		{"an answer above", func(s *api.State) { s.Table[0].Kept[1].Val = 1000 }, api.ErrForm},
	} {
		s := shop()
		c.turn(&s)
		if b, e := Write(s); b != "" || e != c.want {
			t.Errorf("%s: %q %d, not error %d", c.what, b, e, c.want)
		}
	}
}

// rows has so many sessions, of clients from 1 on.
func rows(n int) string {
	out := string(rune(n))
	for c := 1; c <= n; c++ {
		out += string(rune(c)) + "\x00\x00\x0a\x00"
	}
	return out
}

// one is the shop's head, and one session.
func one(session string) string { return shopHead + "\x01" + session }

// G1: bytes of no right state, whatever error such a state has, are ErrForm.
func TestReadForm(t *testing.T) {
	for _, c := range []struct {
		what string
		b    string
		want api.Errno
	}{
		{"at greatest", "\x32" + shopHead[1:] + "\x00", api.OK},
		{"at above", "\x33" + shopHead[1:] + "\x00", api.ErrForm},
		{"at far above", "\xff" + shopHead[1:] + "\x00", api.ErrForm},
		{"clock greatest", "\x06\x03\xe7" + shopHead[3:] + "\x00", api.OK},
		{"clock above", "\x06\x03\xe8" + shopHead[3:] + "\x00", api.ErrForm},
		{"clock far above", "\x06\xff\xff" + shopHead[3:] + "\x00", api.ErrForm},
		{"last value greatest", shopHead[:9] + "\x03\xe7\x00", api.OK},
		{"last value above", shopHead[:9] + "\x03\xe8\x00", api.ErrForm},
		{"last value far above", shopHead[:9] + "\x80\x00\x00", api.ErrForm},
		{"three sessions", shopHead + rows(3), api.OK},
		{"four sessions", shopHead + rows(4), api.ErrForm},
		{"more sessions than there are bytes", shopHead + "\xff" + rows(3)[1:], api.ErrForm},
		{"fewer sessions than there are bytes", shopHead + "\x02" + rows(3)[1:], api.ErrForm},
		{"client 0", one("\x00\x00\x00\x0a\x00"), api.ErrForm},
		{"client greatest", one("\x05\x00\x00\x0a\x00"), api.OK},
		{"client above", one("\x06\x00\x00\x0a\x00"), api.ErrForm},
		{"clients fall", shopHead + "\x02\x02\x00\x00\x0a\x00\x01\x00\x00\x0a\x00", api.ErrForm},
		{"a client twice", shopHead + "\x02\x02\x00\x00\x0a\x00\x02\x00\x00\x0a\x00", api.ErrForm},
		{"acked greatest", one("\x01\x3c\x00\x0a\x00"), api.OK},
		{"acked above", one("\x01\x3d\x00\x0a\x00"), api.ErrForm},
		{"seen later", one("\x01\x00\x00\x0b\x00"), api.ErrForm},
		{"seen far later", one("\x01\x00\x01\x0a\x00"), api.ErrForm},
		{"seen just so long ago", "\x06\x00\x14" + shopHead[3:] + "\x01\x01\x00\x00\x00\x00", api.OK},
		{"seen too long ago", "\x06\x00\x15" + shopHead[3:] + "\x01\x01\x00\x00\x00\x00", api.ErrForm},
		{"kept: Fail", one("\x01\x00\x00\x0a\x01\x01\x00\x00"), api.OK},
		{"kept: greatest", one("\x01\x00\x00\x0a\x01\x01\x03\xe8"), api.OK},
		{"kept: above", one("\x01\x00\x00\x0a\x01\x01\x03\xe9"), api.ErrForm},
		{"kept: far above", one("\x01\x00\x00\x0a\x01\x01\xff\xff"), api.ErrForm},
		{"kept: acknowledged", one("\x01\x01\x00\x0a\x01\x01\x00\x00"), api.ErrForm},
		{"kept: last of the window", one("\x01\x01\x00\x0a\x01\x04\x00\x00"), api.OK},
		{"kept: behind the window", one("\x01\x01\x00\x0a\x01\x05\x00\x00"), api.ErrForm},
		{"kept: the last number", one("\x01\x3b\x00\x0a\x01\x3c\x00\x00"), api.OK},
		{"kept: behind the last number", one("\x01\x3b\x00\x0a\x01\x3d\x00\x00"), api.ErrForm},
		{"kept: they fall", one("\x01\x00\x00\x0a\x02\x02\x00\x00\x01\x00\x00"), api.ErrForm},
		{"kept: twice", one("\x01\x00\x00\x0a\x02\x02\x00\x00\x02\x00\x00"), api.ErrForm},
		{"kept: more than there are bytes", one("\x01\x00\x00\x0a\xff\x01\x00\x00"), api.ErrForm},
		{"kept: fewer than there are bytes", one("\x01\x00\x00\x0a\x00\x01\x00\x00"), api.ErrForm},
		{"letters", "portage", api.ErrForm},
		{"many letters", strings.Repeat("a", 100), api.ErrForm},
	} {
		wantRead(t, c.what, c.b, c.want)
	}
}

// wantRead reads bytes: with an error there is no state; without one they are the bytes that it writes.
func wantRead(t *testing.T, what, b string, want api.Errno) {
	s, e := Read(b)
	if e != want {
		t.Errorf("%s: Read of %q has error %d, not %d", what, b, e, want)
	}
	if e != api.OK && !reflect.DeepEqual(s, api.State{}) {
		t.Errorf("%s: Read of %q has error %d, and %v", what, b, e, s)
	}
	if w, f := Write(s); e == api.OK && (w != b || f != api.OK) {
		t.Errorf("%s: Write is %q %d, of what was read of %q", what, w, f, b)
	}
}

// G1: cut anywhere, or with something behind it, it is none.
func TestReadCut(t *testing.T) {
	for _, b := range []string{strings.Repeat("\x00", 12), shopBytes, lastBytes} {
		for k := range len(b) {
			wantRead(t, "cut", b[:k], api.ErrForm)
		}
		wantRead(t, "whole", b, api.OK)
		for _, more := range []string{"\x00", "x", "\xff", b} {
			wantRead(t, "something behind it", b+more, api.ErrForm)
		}
	}
}

// G1: ErrMany ahead of ErrForm, and only beyond MaxBytes.
func TestReadMany(t *testing.T) {
	for _, b := range []string{"", "a", "\xff", shopBytes, strings.Repeat("\x00", 12)} {
		for _, fill := range []string{"a", "\x00", "\xff"} {
			wantRead(t, "just so many", b+strings.Repeat(fill, 4096-len(b)), api.ErrForm)
			wantRead(t, "one too many", b+strings.Repeat(fill, 4097-len(b)), api.ErrMany)
			wantRead(t, "far too many", b+strings.Repeat(fill, 99999), api.ErrMany)
		}
	}
}
