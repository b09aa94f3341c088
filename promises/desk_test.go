package promises

import (
	"testing"

	"portage/api"
	"portage/desk"
	"portage/log"
	"portage/stub"
)

// P2 and P3 of log: of right entries and bytes, and of wrong ones.
func TestLogMemory(t *testing.T) {
	all := ""
	for _, x := range entries() {
		checkMemory(t, ask{
			name: "Write",
			args: func() []any { return []any{x} },
			call: func(a []any) []any {
				b, e := log.Write(a[0].(api.Entry))
				return []any{b, e}
			},
		})
		b, _ := log.Write(x)
		all += b
	}
	for _, b := range []string{"", all, all[:len(all)-1], all[1:], all + "x", string(make([]byte, api.MaxBytes+1))} {
		checkMemory(t, ask{
			name: "Replay",
			args: func() []any { return []any{b} },
			call: func(a []any) []any {
				l, n, e := log.Replay(a[0].(string))
				return []any{l, n, e}
			},
		})
	}
}

// askStub asks something of a client's own.
func askStub(name string, s api.Stub, call func(s api.Stub) []any) ask {
	return ask{
		name: name,
		args: func() []any { return []any{s} },
		call: func(a []any) []any { return call(a[0].(api.Stub)) },
	}
}

// P2 and P3 of stub: of right ones, and of a wrong one.
func TestStubMemory(t *testing.T) {
	for _, s := range []api.Stub{
		{Client: 1, Next: 1}, {Client: 1, Next: 4}, {Client: 2, Next: 6, Came: []int{1, 2, 4}}, {Client: 2, Next: 3, Came: []int{1, 2}}, {Client: 2, Next: 61, Came: []int{60}}, {Client: 2, Next: 3, Came: []int{2, 1}},
	} {
		checkMemory(t, askStub("Check", s, func(s api.Stub) []any { return []any{stub.Check(s)} }))
		checkMemory(t, askStub("Next", s, func(s api.Stub) []any {
			then, x, e := stub.Next(s, 7, api.Op{Kind: api.Get})
			return []any{then, x, e}
		}))
		for seq := range 7 {
			checkMemory(t, askStub("Again", s, func(s api.Stub) []any {
				x, e := stub.Again(s, 7, seq, api.Op{Kind: api.Get})
				return []any{x, e}
			}))
			checkMemory(t, askStub("Came", s, func(s api.Stub) []any {
				then, e := stub.Came(s, seq)
				return []any{then, e}
			}))
		}
	}
}

// P2 and P3 of desk.
func TestDeskMemory(t *testing.T) {
	for _, script := range []string{"", "x", "x\n", "open 1 1\ncall 1 1 1 0 add 0 5\nrun 0 9\ncut 2\nvals 0\nkept 0\ndone 1 1\nvals 3\n"} {
		checkMemory(t, ask{
			name: "Play",
			args: func() []any { return []any{script} },
			call: func(a []any) []any {
				out, e := desk.Play(a[0].(string))
				return []any{out, e}
			},
		})
	}
}
