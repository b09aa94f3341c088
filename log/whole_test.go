package log

import (
	"math/rand"
	"slices"
	"testing"

	"portage/api"
	"portage/apply"
)

func drawOp(r *rand.Rand) api.Op {
	x := api.Op{Kind: 1 + r.Intn(4), Key: r.Intn(api.Keys)}
	switch x.Kind {
	case api.Set:
		x.N = r.Intn(api.MaxVal + 1)
	case api.Add:
		x.N = r.Intn(2*api.MaxVal+1) - api.MaxVal
	case api.Move:
		x.To, x.N = r.Intn(api.Keys), r.Intn(api.MaxVal+1)
	}
	return x
}

func drawEntry(r *rand.Rand) api.Entry {
	e := api.Entry{Kind: 1 + r.Intn(3), Time: r.Intn(api.MaxTime + 1), Client: 1 + r.Intn(api.Clients)}
	if e.Kind == api.Call {
		e.Seq = 1 + r.Intn(api.MaxSeq)
		e.Ack, e.Op = r.Intn(e.Seq), drawOp(r)
	}
	return e
}

func drawList(t *testing.T, r *rand.Rand) ([]api.Entry, string) {
	var l []api.Entry
	all := ""
	for range r.Intn(api.MaxLog + 1) {
		e := drawEntry(r)
		b, f := Write(e)
		if f != api.OK {
			t.Fatalf("%v has error %d", e, f)
		}
		l, all = append(l, e), all+b
	}
	return l, all
}

// What is written is read as it was, be the end of it lost or not.
func TestThereAndBack(t *testing.T) {
	r := rand.New(rand.NewSource(50))
	for range 300 {
		l, all := drawList(t, r)
		wantReplay(t, all, l, len(all))
		cut := r.Intn(len(all) + 1)
		whole, size := 0, 0
		for _, e := range l {
			if b, _ := Write(e); size+len(b) <= cut {
				whole, size = whole+1, size+len(b)
			} else {
				break
			}
		}
		wantReplay(t, all[:cut], l[:whole], size)
	}
}

// begins tells whether a text begins with the bytes of a right entry: those of each kind have one length.
func begins(b string) bool {
	for _, size := range []int{4, 11} {
		if len(b) < size {
			continue
		}
		at := func(i int) int { return int(b[i]) }
		e := api.Entry{Kind: at(0), Time: 256*at(1) + at(2), Client: at(3)}
		if size == 11 {
			e.Seq, e.Ack = at(4), at(5)
			e.Op = api.Op{Kind: at(6), Key: at(7), To: at(8), N: 256*at(9) + at(10) - 999}
		}
		if (e.Kind == api.Call) == (size == 11) && apply.Check(e) == api.OK {
			return true
		}
	}
	return false
}

// onlyWhatIsWritten: what is read of any text was written so, and nothing more could be read.
func onlyWhatIsWritten(t *testing.T, b string) int {
	t.Helper()
	l, n, e := Replay(b)
	if e != api.OK || n > len(b) || len(l) > api.MaxLog {
		t.Fatalf("Replay of %q is %v %d %d", b, l, n, e)
	}
	again := ""
	for _, x := range l {
		one, f := Write(x)
		if f != api.OK {
			t.Fatalf("Replay of %q has %v, which has error %d", b, x, f)
		}
		again += one
	}
	if again != b[:n] {
		t.Fatalf("Replay of %q is %v %d, which is written as %q", b, l, n, again)
	}
	if len(l) < api.MaxLog && begins(b[n:]) {
		t.Fatalf("Replay of %q is %v %d, and there is one more", b, l, n)
	}
	return len(l)
}

// Nothing else is read: of right bytes each one is put to all that it may be.
func TestEachByte(t *testing.T) {
	for _, c := range pairs() {
		read := 0
		for i := range len(c.b) {
			for v := range 256 {
				b := []byte(c.b)
				b[i] = byte(v)
				read += onlyWhatIsWritten(t, string(b)+c.b)
			}
		}
		if read == 0 {
			t.Errorf("of %q none was read", c.b)
		}
	}
}

// Likewise of texts of which bytes are changed, left out or put between.
func TestManyBytes(t *testing.T) {
	r := rand.New(rand.NewSource(51))
	short, full := 0, 0
	for range 5000 {
		l, all := drawList(t, r)
		if b := []byte(all); len(b) > 0 {
			i := r.Intn(len(b))
			switch r.Intn(4) {
			case 0:
				b = slices.Delete(b, i, i+1)
			case 1:
				b = slices.Insert(b, i, byte(r.Intn(8)))
			default:
				b[i] = byte(r.Intn(8))
			}
			all = string(b)
		}
		if onlyWhatIsWritten(t, all) < len(l) {
			short++
		} else {
			full++
		}
	}
	if short == 0 || full == 0 {
		t.Errorf("%d times less was read, %d times as much", short, full)
	}
}
