package log

import (
	"reflect"
	"slices"
	"strings"
	"testing"

	"portage/api"
)

func open(time, client int) api.Entry {
	return api.Entry{Kind: api.Open, Time: time, Client: client}
}

func shut(time, client int) api.Entry {
	return api.Entry{Kind: api.Close, Time: time, Client: client}
}

func call(time, client, seq, ack int, x api.Op) api.Entry {
	return api.Entry{Kind: api.Call, Time: time, Client: client, Seq: seq, Ack: ack, Op: x}
}

func add(n int) api.Op { return api.Op{Kind: api.Add, N: n} }

// pairs of entries and their bytes.
func pairs() []struct {
	e api.Entry
	b string
} {
	return []struct {
		e api.Entry
		b string
	}{
		{open(1, 1), "\x01\x00\x01\x01"},
		{open(0, 5), "\x01\x00\x00\x05"},
		{open(255, 2), "\x01\x00\xff\x02"},
		{open(256, 2), "\x01\x01\x00\x02"},
		{shut(999, 5), "\x03\x03\xe7\x05"},
		{call(2, 1, 1, 0, add(5)), "\x02\x00\x02\x01\x01\x00\x02\x00\x00\x03\xec"},
		{call(2, 1, 1, 0, add(-999)), "\x02\x00\x02\x01\x01\x00\x02\x00\x00\x00\x00"},
		{call(2, 1, 1, 0, add(999)), "\x02\x00\x02\x01\x01\x00\x02\x00\x00\x07\xce"},
		{call(2, 1, 1, 0, add(-743)), "\x02\x00\x02\x01\x01\x00\x02\x00\x00\x01\x00"},
		{call(999, 5, 60, 59, api.Op{Kind: api.Set, Key: 3, N: 999}), "\x02\x03\xe7\x05\x3c\x3b\x01\x03\x00\x07\xce"},
		{call(999, 5, 60, 0, api.Op{Kind: api.Move, Key: 1, To: 3, N: 2}), "\x02\x03\xe7\x05\x3c\x00\x03\x01\x03\x03\xe9"},
		{call(7, 4, 9, 8, api.Op{Kind: api.Get, Key: 2}), "\x02\x00\x07\x04\x09\x08\x04\x02\x00\x03\xe7"},
	}
}

// K1: bytes, written and read, one by one and one behind the other.
func TestBytes(t *testing.T) {
	all := ""
	var list []api.Entry
	for _, c := range pairs() {
		if b, e := Write(c.e); b != c.b || e != api.OK {
			t.Errorf("Write of %v is %q %d, not %q", c.e, b, e, c.b)
		}
		wantReplay(t, c.b, []api.Entry{c.e}, len(c.b))
		all, list = all+c.b, append(list, c.e)
	}
	wantReplay(t, all, list, len(all))
	// Example 11.
	if b, _ := Write(call(2, 1, 1, 0, add(5))); len(b) != 11 {
		t.Errorf("a call has %d bytes", len(b))
	}
}

func wantReplay(t *testing.T, b string, want []api.Entry, size int) {
	t.Helper()
	if l, n, e := Replay(b); !slices.Equal(l, want) || n != size || e != api.OK {
		t.Errorf("Replay of %q is %v %d %d, not %v %d", b, l, n, e, want, size)
	}
}

// K1 and P1: Write tells apply.Check's errors, in its order, and no bytes with them.
func TestWriteErrors(t *testing.T) {
	for _, c := range []struct {
		e    api.Entry
		want api.Errno
	}{
		{api.Entry{}, api.ErrKind},
		{api.Entry{Kind: 4, Time: -1}, api.ErrKind},
		{api.Entry{Kind: 257, Time: 1, Client: 1}, api.ErrKind},
		{open(-1, 1), api.ErrRange},
		{open(1000, 1), api.ErrRange},
		{open(1<<16, 1), api.ErrRange},
		{open(1, 0), api.ErrRange},
		{shut(1, 6), api.ErrRange},
		{open(1, 257), api.ErrRange},
		{call(1, 1, 0, 0, add(1)), api.ErrRange},
		{call(1, 1, 61, 0, add(1)), api.ErrRange},
		{call(1, 1, 1, 1, add(1)), api.ErrRange},
		{call(1, 1, 1, -1, add(1)), api.ErrRange},
		{call(1, 1, 1, 1, api.Op{}), api.ErrRange},
		{call(1, 1, 1, 0, api.Op{}), api.ErrKind},
		{call(1, 1, 1, 0, add(1000)), api.ErrRange},
		{call(1, 1, 1, 0, add(-1000)), api.ErrRange},
		{call(1, 1, 1, 0, api.Op{Kind: api.Set, N: -1}), api.ErrRange},
		{call(1, 1, 1, 0, api.Op{Kind: api.Get, N: 1}), api.ErrForm},
		{call(1, 1, 1, 0, api.Op{Kind: api.Add, To: 1}), api.ErrForm},
		{api.Entry{Kind: api.Open, Client: 1, Seq: 1}, api.ErrForm},
		{api.Entry{Kind: api.Close, Client: 1, Op: add(1)}, api.ErrForm},
		{api.Entry{Kind: api.Open, Client: 6, Ack: 1}, api.ErrRange},
	} {
		if b, e := Write(c.e); b != "" || e != c.want {
			t.Errorf("Write of %v is %q %d, not error %d", c.e, b, e, c.want)
		}
	}
}

// K1: the reading ends where there is no right entry, though one may be there further on.
func TestReplayEnds(t *testing.T) {
	first, last := open(1, 1), shut(9, 5)
	head, tail := "\x01\x00\x01\x01", "\x03\x00\x09\x05"
	for _, c := range []struct{ what, b string }{
		{"no kind", "\x00\x00\x01\x01"},
		{"kind above", "\x04\x00\x01\x01"},
		{"time above", "\x01\x03\xe8\x01"},
		{"time far above", "\x01\xff\xff\x01"},
		{"client 0", "\x01\x00\x01\x00"},
		{"client above", "\x01\x00\x01\x06"},
		{"number 0", "\x02\x00\x01\x01\x00\x00\x02\x00\x00\x03\xe8"},
		{"number above", "\x02\x00\x01\x01\x3d\x00\x02\x00\x00\x03\xe8"},
		{"ack above", "\x02\x00\x01\x01\x01\x01\x02\x00\x00\x03\xe8"},
		{"op of no kind", "\x02\x00\x01\x01\x01\x00\x05\x00\x00\x03\xe8"},
		{"key above", "\x02\x00\x01\x01\x01\x00\x02\x04\x00\x03\xe8"},
		{"to of an add", "\x02\x00\x01\x01\x01\x00\x02\x00\x01\x03\xe8"},
		{"to above", "\x02\x00\x01\x01\x01\x00\x03\x00\x04\x03\xe8"},
		{"n above", "\x02\x00\x01\x01\x01\x00\x02\x00\x00\x07\xcf"},
		{"n of a set below", "\x02\x00\x01\x01\x01\x00\x01\x00\x00\x03\xe6"},
		{"n of a get", "\x02\x00\x01\x01\x01\x00\x04\x00\x00\x03\xe8"},
		{"n of a get, bytes of 0", "\x02\x00\x01\x01\x01\x00\x04\x00\x00\x00\x00"},
		{"any text", "open 1 1\n"},
	} {
		wantReplay(t, c.b, nil, 0)
		wantReplay(t, head+c.b+tail, []api.Entry{first}, 4)
		wantReplay(t, head+tail+c.b, []api.Entry{first, last}, 8)
	}
}

// K1: what ends too early is no entry, wherever it ends.
func TestReplayEarly(t *testing.T) {
	wantReplay(t, "", nil, 0)
	for _, c := range pairs() {
		for n := range len(c.b) {
			wantReplay(t, c.b[:n], nil, 0)
			wantReplay(t, "\x01\x00\x01\x01"+c.b[:n], []api.Entry{open(1, 1)}, 4)
		}
	}
}

// K1: at most MaxLog are told; behind them there may be anything, up to MaxBytes.
func TestReplayMany(t *testing.T) {
	one := "\x02\x00\x02\x01\x01\x00\x02\x00\x00\x03\xec"
	list := slices.Repeat([]api.Entry{call(2, 1, 1, 0, add(5))}, api.MaxLog)
	full := strings.Repeat(one, api.MaxLog)
	for _, c := range []struct {
		b    string
		many int
	}{
		{full[11:], 49},
		{full, 50},
		{full + one, 50},
		{full + "x", 50},
		{full + strings.Repeat("x", api.MaxBytes-len(full)), 50},
		{strings.Repeat("\x00", api.MaxBytes), 0},
	} {
		wantReplay(t, c.b, list[:c.many], 11*c.many)
	}
	for _, b := range []string{
		full + strings.Repeat("x", api.MaxBytes+1-len(full)),
		strings.Repeat("\x00", api.MaxBytes+1),
		strings.Repeat("a", 1<<20),
	} {
		if l, n, e := Replay(b); len(l) != 0 || n != 0 || e != api.ErrMany {
			t.Errorf("%d bytes: %v %d %d", len(b), l, n, e)
		}
	}
}

// P2: an answer is new each time.
func TestReplayNew(t *testing.T) {
	b := "\x01\x00\x01\x01\x03\x00\x09\x05"
	first, _, _ := Replay(b)
	first[0].Client = 3
	second, _, _ := Replay(b)
	if want := []api.Entry{open(1, 1), shut(9, 5)}; !reflect.DeepEqual(second, want) {
		t.Errorf("%v, not %v", second, want)
	}
}
