package desk

import (
	"strings"
	"testing"

	"portage/api"
)

// exchange is what is asked, and what it gives, line by line.
type exchange struct{ ask, want string }

func wantPlay(t *testing.T, what string, l []exchange) {
	t.Helper()
	script, want := "", ""
	for _, x := range l {
		script, want = script+x.ask+"\n", want+x.want+"\n"
	}
	got, e := Play(script)
	if e != api.OK {
		t.Errorf("%s: error %d", what, e)
	}
	if got == want {
		return
	}
	lines := strings.Split(got, "\n")
	for i, x := range l {
		if i >= len(lines) || lines[i] != x.want {
			t.Errorf("%s: line %d, %q: not %q, but %q", what, i, x.ask, x.want, lines[min(i, len(lines)-1)])
		}
	}
	if len(lines) != len(l)+1 {
		t.Errorf("%s: %d lines give %q", what, len(l), got)
	}
}

// M1: what each line does, and gives.
func TestLines(t *testing.T) {
	// Example 13: called twice, it was done once.
	wantPlay(t, "called twice", []exchange{
		{"open 1 1", "0"}, {"call 2 1 1 0 add 0 5", "5"}, {"call 3 1 1 0 add 0 5", "5"}, {"done 1 1", "1"},
		{"run 0 9", "3"}, {"vals 0", "5 0 0 0"}, {"kept 0", "3 1"},
	})
	wantPlay(t, "ops", []exchange{
		{"open 1 1", "0"}, {"call 2 1 1 0 set 3 999", "999"}, {"call 2 1 2 1 get 3 0", "999"}, {"call 2 1 3 2 add 3 -999", "0"},
		{"call 2 1 4 3 add 2 8", "8"}, {"call 2 1 5 4 add 2 -9", "-1"}, {"call 2 1 6 5 add 1 0", "0"}, {"run 2 50", "7"}, {"vals 2", "0 0 8 0"},
		{"vals 1", "0 0 0 0"},
	})
	wantPlay(t, "all answers that are no values", []exchange{
		{"open 1 1", "0"}, {"open 1 2", "0"}, {"open 1 5", "0"}, {"open 1 3", "-2"}, {"call 1 3 1 0 get 0 0", "-3"}, {"close 1 3", "-3"},
		{"call 1 1 1 0 add 0 -1", "-1"}, {"call 1 1 2 1 get 0 0", "0"}, {"call 1 1 1 0 get 0 0", "-4"}, {"call 1 1 5 1 get 0 0", "-5"},
		{"close 1 1", "0"}, {"open 1 3", "0"},
	})
	wantPlay(t, "how much is kept", []exchange{
		{"kept 1", "0 0"}, {"open 1 1", "0"}, {"open 1 2", "0"}, {"call 1 1 1 0 set 0 1", "1"}, {"call 1 1 2 0 set 0 2", "2"},
		{"call 1 2 3 0 set 0 3", "3"}, {"kept 1", "0 0"}, {"run 1 4", "4"}, {"kept 1", "4 2"}, {"run 1 0", "0"}, {"kept 1", "4 2"},
		{"run 1 50", "1"}, {"kept 1", "5 3"}, {"call 1 1 3 2 set 0 4", "4"}, {"run 1 1", "1"}, {"kept 1", "6 2"},
		{"close 1 1", "0"}, {"run 1 50", "1"}, {"kept 1", "7 1"}, {"open 40 4", "0"}, {"run 1 50", "1"}, {"kept 1", "8 0"},
		{"kept 0", "0 0"}, {"kept 2", "0 0"},
	})
	wantPlay(t, "cuts", []exchange{
		{"cut 0", "ok"}, {"cut 1", "error 3"}, {"open 1 1", "0"}, {"call 1 1 1 0 set 2 9", "9"}, {"run 0 1", "1"}, {"cut 3", "error 3"},
		{"cut 2", "ok"}, {"cut 1", "error 3"}, {"kept 0", "1 0"}, {"vals 0", "0 0 0 0"}, {"run 0 0", "0"}, {"kept 0", "2 1"}, {"vals 0", "0 0 9 0"},
		{"call 2 1 1 0 set 2 7", "9"}, {"call 2 1 2 1 add 2 1", "10"}, {"cut 1", "ok"}, {"run 2 50", "1"}, {"kept 2", "4 1"}, {"vals 2", "0 0 10 0"},
	})
	wantPlay(t, "done, of all that was put", []exchange{
		{"done 1 1", "0"}, {"call 1 1 1 0 set 0 1", "-3"}, {"done 1 1", "0"}, {"open 1 1", "0"}, {"call 1 1 1 0 set 0 1", "1"}, {"done 1 1", "1"},
		{"done 1 2", "0"}, {"done 2 1", "0"}, {"cut 3", "ok"}, {"done 1 1", "1"}, {"close 2 1", "0"}, {"open 2 1", "0"},
		{"call 2 1 1 0 add 0 -2", "-1"}, {"done 1 1", "2"}, {"cut 1", "ok"}, {"done 1 1", "2"}, {"done 5 60", "0"},
	})
}

// M1: lines that are none of these.
func TestForm(t *testing.T) {
	for _, line := range []string{
		"", " ", "x", "Open 1 1", "opens 1 1", "open\t1 1", "open", "open 1", "open 1 1 1", "open 1 1 ", " open 1 1", "open  1 1", "open 1  1",
		"open 1 1\r", "open 1 x", "open x 1", "open -1 1", "open 1 -1", "open +1 1", "open 01 1", "open 1 01", "open 00 1", "open 0x1 1", "open 1_0 1",
		"open 1000000 1", "open 0000001 1", "open 1 1000000", "open 99999999999999999999 1", "open ¹ 1", "open 1. 1", "open 1 1\x00",
		"close", "close 1", "close 1 ", "close 1 1 1", "close 1 a", "close -0 1",
		"call", "call 1 1 1 0 add 0", "call 1 1 1 0 add 0 1 1", "call 1 1 1 0 move 0 1", "call 1 1 1 0 Set 0 1", "call 1 1 1 0  0 1", "call 1 1 1 0 2 0 1",
		"call 1 1 1 0 set 0 -1", "call 1 1 1 0 set 0 -0", "call 1 1 1 0 get 0 -1", "call 1 1 1 0 get 0 -0", "call 1 1 1 0 get 0 1", "call 1 1 1 0 get 0 00",
		"call 1 1 1 0 get 0 x", "call 1 1 1 0 get 0 999999", "call 1 1 1 0 add 0 -0", "call 1 1 1 0 add 0 --1", "call 1 1 1 0 add 0 -", "call 1 1 1 0 add 0 +1",
		"call 1 1 1 0 add 0 -01", "call 1 1 1 0 add 0 01", "call 1 1 1 0 add 0 -1000000", "call 1 1 1 0 add 0 1000000", "call 1 1 1 0 add 0 1-",
		"call 1 1 1 0 add 0 ", "call 1 1 1 0 add 0 - 1", "call 1 1 1 0 add -1 1", "call 1 1 1 -1 add 0 1", "call 1 1 -1 0 add 0 1", "call 1 -1 1 0 add 0 1",
		"call -1 1 1 0 add 0 1", "call 1 1 1 0 set 00 1", "call 1 1 1 00 set 0 1", "call 1 1 01 0 set 0 1", "call 1 1 1 0 set x 1", "call 1 1 1 0 set 0 1000000",
		"run", "run 0", "run 0 1 1", "run 0 x", "run x 0", "run 0 -1", "run -1 0", "run 00 1", "cut", "cut 1 1", "cut x", "cut -1", "cut 00", "cut ",
		"vals", "vals 0 0", "vals x", "vals -1", "vals 00", "vals ", "kept", "kept 0 0", "kept x", "kept -0", "done", "done 1", "done 1 1 1", "done 1 x", "done x 1", "done 01 1",
	} {
		wantPlay(t, "no such line", []exchange{{line, "error 1"}})
		// With a client, and an entry behind, nothing changes.
		wantPlay(t, "no such line", []exchange{{"open 1 1", "0"}, {"run 0 1", "1"}, {line, "error 1"}, {"kept 0", "1 0"}, {"run 0 9", "0"}, {"done 1 1", "0"}})
	}
}

// M1: right lines whose numbers are not, and calls' own errors; the line's form comes first.
func TestErrors(t *testing.T) {
	for _, c := range []exchange{
		{"open 1000 1", "error 3"}, {"open 999999 1", "error 3"}, {"open 1 0", "error 3"}, {"open 1 6", "error 3"}, {"open 1 999999", "error 3"},
		{"close 1000 1", "error 3"}, {"close 1 0", "error 3"}, {"close 1 6", "error 3"}, {"close 0 5", "-3"}, {"close 999 5", "-3"},
		{"call 1000 1 1 0 set 0 1", "error 3"}, {"call 1 6 1 0 set 0 1", "error 3"}, {"call 1 0 1 0 set 0 1", "error 3"}, {"call 1 1 0 0 set 0 1", "error 3"},
		{"call 1 1 61 0 set 0 1", "error 3"}, {"call 1 1 1 1 set 0 1", "error 3"}, {"call 1 1 1 0 set 4 1", "error 3"}, {"call 1 1 1 0 get 4 0", "error 3"},
		{"call 1 1 1 0 set 0 1000", "error 3"}, {"call 1 1 1 0 add 0 1000", "error 3"}, {"call 1 1 1 0 add 0 -1000", "error 3"}, {"call 1 1 1 0 add 0 -999999", "error 3"},
		{"call 999 5 60 59 set 3 999", "-3"}, {"call 0 1 1 0 add 0 -999", "-3"}, {"call 0 1 1 0 add 0 999", "-3"},
		{"call 1000 1 1 0 get 0 1", "error 1"}, {"call 1 1 1 0 get 4 1", "error 1"}, {"call 1000 1 1 0 set 0 x", "error 1"}, {"call 1000 6 1 0 move 0 1", "error 1"},
		{"open 1000 x", "error 1"}, {"open 1000", "error 1"}, {"run 3 x", "error 1"}, {"done 6 x", "error 1"}, {"vals 3 x", "error 1"},
		{"run 3 1", "error 3"}, {"run 999999 1", "error 3"}, {"run 0 51", "error 3"}, {"run 0 999999", "error 3"}, {"run 3 51", "error 3"}, {"run 2 50", "0"},
		{"cut 1", "error 3"}, {"cut 999999", "error 3"}, {"vals 3", "error 3"}, {"vals 999999", "error 3"}, {"vals 2", "0 0 0 0"},
		{"kept 3", "error 3"}, {"kept 2", "0 0"}, {"done 0 1", "error 3"}, {"done 6 1", "error 3"}, {"done 1 0", "error 3"}, {"done 1 61", "error 3"}, {"done 5 60", "0"},
	} {
		wantPlay(t, "errors", []exchange{c})
	}
}

// M1: with an error nothing has changed.
func TestUnchanged(t *testing.T) {
	wrong := []string{"x", "open 1000 2", "close 1 6", "call 1 1 2 2 set 0 7", "call 1 1 2 0 set 4 7", "call 1 1 2 0 get 0 7", "run 3 1", "run 1 51", "cut 3", "vals 3", "kept 3", "done 0 1"}
	l := []exchange{{"open 1 1", "0"}, {"call 1 1 1 0 set 0 4", "4"}, {"run 1 1", "1"}}
	for _, w := range wrong {
		got, _ := Play(w + "\n")
		l = append(l, exchange{w, strings.TrimSuffix(got, "\n")}, exchange{"kept 1", "1 0"})
	}
	l = append(l, exchange{"done 1 1", "1"}, exchange{"done 1 2", "0"}, exchange{"vals 1", "0 0 0 0"}, exchange{"run 1 9", "1"}, exchange{"vals 1", "4 0 0 0"}, exchange{"run 0 9", "2"}, exchange{"cut 2", "ok"})
	wantPlay(t, "unchanged", l)
	for _, x := range l {
		if strings.HasPrefix(x.want, "error") {
			return
		}
	}
	t.Errorf("no line has an error")
}

// M1: more than MaxLog entries are ErrMany, be they packed or not; the entry's own error comes first.
func TestFull(t *testing.T) {
	var l []exchange
	for range api.MaxLog - 1 {
		l = append(l, exchange{"open 1 1", "0"})
	}
	l = append(l, exchange{"call 1 1 1 0 set 0 7", "7"}, exchange{"open 1 1", "error 2"}, exchange{"cut 50", "ok"}, exchange{"call 1 1 2 0 set 0 1", "error 2"},
		exchange{"close 1 1", "error 2"}, exchange{"open 1 6", "error 3"}, exchange{"call 1 1 2 0 set 4 1", "error 3"}, exchange{"done 1 1", "1"}, exchange{"done 1 2", "0"}, exchange{"run 0 50", "0"})
	wantPlay(t, "full", l)
}

// M1 and P1: scripts that are none.
func TestScript(t *testing.T) {
	long := strings.Repeat("x", api.MaxBytes-1) + "\n"
	for _, c := range []struct {
		what, script, want string
		e                  api.Errno
	}{
		{"empty", "", "", api.OK},
		{"an empty line", "\n", "error 1\n", api.OK},
		{"two of them", "\n\n", "error 1\nerror 1\n", api.OK},
		{"no line feed", "vals 0", "", api.ErrForm},
		{"none behind the last", "vals 0\nvals 0", "", api.ErrForm},
		{"a carriage return", "vals 0\r", "", api.ErrForm},
		{"a blank behind", "vals 0\n ", "", api.ErrForm},
		{"as many lines as there may be", strings.Repeat("cut 0\n", 60), strings.Repeat("ok\n", 60), api.OK},
		{"a line more", strings.Repeat("cut 0\n", 61), "", api.ErrMany},
		{"a line more, and no line feed", strings.Repeat("cut 0\n", 61) + "x", "", api.ErrMany},
		{"as many lines, and no line feed", strings.Repeat("cut 0\n", 60) + "x", "", api.ErrForm},
		{"empty lines", strings.Repeat("\n", 61), "", api.ErrMany},
		{"as many bytes as there may be", long, "error 1\n", api.OK},
		{"a byte more", "x" + long, "", api.ErrMany},
		{"a byte more, and no line feed", strings.Repeat("x", api.MaxBytes+1), "", api.ErrMany},
		{"as many bytes, and no line feed", strings.Repeat("x", api.MaxBytes), "", api.ErrForm},
	} {
		if got, e := Play(c.script); got != c.want || e != c.e {
			t.Errorf("%s: %q %d, not %q %d", c.what, got, e, c.want, c.e)
		}
	}
}
