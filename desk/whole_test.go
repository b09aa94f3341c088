package desk

import (
	"fmt"
	"math/rand"
	"strings"
	"testing"

	"portage/api"
	"portage/fold"
	"portage/pack"
	"portage/state"
	"portage/trace"
)

// book is the desk once more, from all entries that were put, and how many of them each node has applied, and are packed.
type book struct {
	all  []api.Entry
	at   [api.Nodes]int
	base int
}

func (b *book) put(e api.Entry) string {
	if len(b.all) == api.MaxLog {
		return "error 2"
	}
	b.all = append(b.all, e)
	_, answers, _ := fold.All(state.Begin(), b.all)
	return fmt.Sprint(answers[len(answers)-1])
}

func (b *book) node(i int) api.State {
	s, _, _ := fold.All(state.Begin(), b.all[:b.at[i]])
	return s
}

func (b *book) run(i, n int) string {
	from := max(b.at[i], b.base)
	b.at[i] = min(from+n, len(b.all))
	return fmt.Sprint(b.at[i] - from)
}

func (b *book) cut(n int) string {
	if n > len(b.all)-b.base {
		return "error 3"
	}
	b.base += n
	return "ok"
}

// drawOp is an op of the lines, and its words.
func drawOp(r *rand.Rand) (api.Op, string) {
	key, n := r.Intn(api.Keys), r.Intn(400)
	switch r.Intn(4) {
	case 0:
		return api.Op{Kind: api.Set, Key: key, N: n}, fmt.Sprint("set ", key, " ", n)
	case 1:
		return api.Op{Kind: api.Get, Key: key}, fmt.Sprint("get ", key, " 0")
	case 2:
		return api.Op{Kind: api.Add, Key: key, N: n}, fmt.Sprint("add ", key, " ", n)
	}
	return api.Op{Kind: api.Add, Key: key, N: -n - 1}, fmt.Sprint("add ", key, " -", n+1)
}

func (b *book) drawPut(r *rand.Rand, time int) exchange {
	e := api.Entry{Kind: 1 + r.Intn(3), Time: time, Client: 1 + r.Intn(4)}
	switch e.Kind {
	case api.Open:
		return exchange{fmt.Sprintf("open %d %d", time, e.Client), b.put(e)}
	case api.Close:
		if r.Intn(4) == 0 {
			return exchange{fmt.Sprintf("close %d %d", time, e.Client), b.put(e)}
		}
		e.Kind = api.Call
	}
	e.Seq = 1 + r.Intn(5)
	e.Ack = r.Intn(e.Seq)
	x, words := drawOp(r)
	e.Op = x
	return exchange{fmt.Sprintf("call %d %d %d %d %s", time, e.Client, e.Seq, e.Ack, words), b.put(e)}
}

func (b *book) drawLine(r *rand.Rand, time int) exchange {
	i, n := r.Intn(api.Nodes), r.Intn(7)
	switch r.Intn(10) {
	case 0:
		return exchange{fmt.Sprintf("run %d %d", i, n), b.run(i, n)}
	case 1:
		return exchange{fmt.Sprintf("cut %d", n), b.cut(n)}
	case 2:
		return exchange{fmt.Sprintf("vals %d", i), strings.Trim(fmt.Sprint(b.node(i).Vals), "[]")}
	case 3:
		kept := 0
		for _, o := range b.node(i).Table {
			kept += len(o.Kept)
		}
		return exchange{fmt.Sprintf("kept %d", i), fmt.Sprint(b.at[i], " ", kept)}
	case 4:
		client, seq := 1+r.Intn(4), 1+r.Intn(5)
		many, _ := trace.Once(b.all, client, seq)
		return exchange{fmt.Sprintf("done %d %d", client, seq), fmt.Sprint(many)}
	}
	return b.drawPut(r, time)
}

// M1 and M2: scripts of right lines give what the layers give that they lean on.
func TestPlayAgainstBook(t *testing.T) {
	r := rand.New(rand.NewSource(70))
	for i := range 300 {
		b := &book{}
		var l []exchange
		time := 0
		for range r.Intn(api.MaxActs + 1) {
			time += r.Intn(1 + 3*(i%3))
			l = append(l, b.drawLine(r, time))
		}
		wantPlay(t, fmt.Sprint("script ", i), l)
	}
}

// M1: who runs to the end has the end, wherever the log was cut.
func TestPlayToTheEnd(t *testing.T) {
	r := rand.New(rand.NewSource(71))
	for i := range 100 {
		b := &book{}
		var l []exchange
		for range api.MaxActs - 6 {
			l = append(l, b.drawLine(r, i%5))
		}
		end, _ := pack.End(api.Log{Tail: b.all})
		for n := range api.Nodes {
			l = append(l, exchange{fmt.Sprintf("run %d 50", n), b.run(n, 50)})
		}
		for n := range api.Nodes {
			l = append(l, exchange{fmt.Sprintf("vals %d", n), strings.Trim(fmt.Sprint(end.Vals), "[]")})
		}
		wantPlay(t, fmt.Sprint("script ", i), l)
	}
}

// P1: whatever a script is, there is a line for each of its lines, and wrong lines change nothing: without them the others give the same.
func TestAnyScript(t *testing.T) {
	r := rand.New(rand.NewSource(72))
	wrong := 0
	for range 400 {
		b := &book{}
		var lines []string
		for range r.Intn(api.MaxActs + 1) {
			line := []byte(b.drawLine(r, 1).ask)
			for range r.Intn(3) {
				line[r.Intn(len(line))] = "0159 -x\xff"[r.Intn(8)]
			}
			lines = append(lines, string(line))
		}
		got := played(t, lines)
		var right, want []string
		for i, g := range got {
			if strings.HasPrefix(g, "error ") {
				wrong++
				continue
			}
			right, want = append(right, lines[i]), append(want, g)
		}
		if again := played(t, right); strings.Join(again, ",") != strings.Join(want, ",") {
			t.Fatalf("%q gives %q, without its wrong lines %q", lines, got, again)
		}
	}
	if wrong == 0 {
		t.Errorf("no line was wrong")
	}
}

func played(t *testing.T, lines []string) []string {
	script := ""
	for _, l := range lines {
		script += l + "\n"
	}
	got, e := Play(script)
	out := strings.Split(got, "\n")
	if e != api.OK || len(out) != len(lines)+1 || out[len(lines)] != "" {
		t.Fatalf("%q gives %q %d", script, got, e)
	}
	return out[:len(lines)]
}

// P3: the same script gives the same, whatever was played between.
func TestPlayAnew(t *testing.T) {
	script := "open 1 1\ncall 1 1 1 0 add 0 5\nrun 0 9\nvals 0\ndone 1 1\n"
	for range 3 {
		if got, e := Play(script); got != "0\n5\n2\n5 0 0 0\n1\n" || e != api.OK {
			t.Errorf("%q %d", got, e)
		}
	}
}
