package snap

import (
	"math/rand"
	"slices"
	"testing"

	"portage/api"
	"portage/fold"
	"portage/state"
)

func drawSession(r *rand.Rand, client, clock int) api.Session {
	s := api.Session{Client: client, Acked: r.Intn(api.MaxSeq + 1)}
	if r.Intn(2) == 0 {
		s.Acked = r.Intn(4)
	}
	s.Seen = clock - r.Intn(min(clock, api.Life)+1)
	for n := s.Acked + 1; n <= min(s.Acked+api.Window, api.MaxSeq); n++ {
		if r.Intn(2) == 0 {
			s.Kept = append(s.Kept, api.Reply{Seq: n, Val: r.Intn(api.MaxVal+2) - 1})
		}
	}
	return s
}

// drawState is any right state, be there entries that lead to it or not.
func drawState(t *testing.T, r *rand.Rand) api.State {
	s := api.State{At: r.Intn(api.MaxLog + 1), Clock: r.Intn(api.MaxTime + 1)}
	for i := range s.Vals {
		s.Vals[i] = r.Intn(api.MaxVal + 1)
	}
	for client := 1; client <= api.Clients && len(s.Table) < api.MaxTable; client++ {
		if r.Intn(2) == 0 {
			s.Table = append(s.Table, drawSession(r, client, s.Clock))
		}
	}
	if e := state.Check(s); e != api.OK {
		t.Fatalf("%v has error %d", s, e)
	}
	return s
}

// drawRest has as many entries as there is room for behind a state.
func drawRest(r *rand.Rand, s api.State) []api.Entry {
	var l []api.Entry
	for range api.MaxLog - s.At {
		e := api.Entry{Kind: 1 + r.Intn(3), Time: min(api.MaxTime, s.Clock+r.Intn(9)), Client: 1 + r.Intn(api.Clients)}
		if e.Kind == api.Call {
			e.Seq = 1 + r.Intn(7)
			e.Ack, e.Op = r.Intn(e.Seq), api.Op{Kind: api.Add, Key: r.Intn(api.Keys), N: r.Intn(200) - 100}
		}
		l = append(l, e)
	}
	return l
}

// G2: what is written is read as it was, and goes on as it would have.
func TestThereAndBack(t *testing.T) {
	r := rand.New(rand.NewSource(10))
	for range 2000 {
		s := drawState(t, r)
		b, e := Write(s)
		got, f := Read(b)
		if !state.Same(got, s) || e != api.OK || f != api.OK {
			t.Fatalf("%v is read as %v, errors %d %d", s, got, e, f)
		}
		rest := drawRest(r, s)
		want, wantAnswers, e := fold.All(s, rest)
		then, answers, f := fold.All(got, rest)
		if !state.Same(then, want) || !slices.Equal(answers, wantAnswers) || e != api.OK || f != api.OK {
			t.Fatalf("%v goes on to %v %v, errors %d %d, not to %v %v", s, then, answers, f, e, want, wantAnswers)
		}
	}
}

// onlyWhatIsWritten: bytes that are read are those of the state that comes of them; all others have no state.
func onlyWhatIsWritten(t *testing.T, b string) bool {
	s, e := Read(b)
	if e != api.OK {
		wantRead(t, "no state", b, api.ErrForm)
		return false
	}
	if f := state.Check(s); f != api.OK {
		t.Errorf("Read of %q is %v, which has error %d", b, s, f)
	}
	wantRead(t, "a state", b, api.OK)
	return true
}

// G2: nothing else is read: of right bytes each one is put to all that it may be.
func TestEachByte(t *testing.T) {
	read := 0
	for _, good := range []string{shopBytes, lastBytes} {
		for i := range len(good) {
			for c := range 256 {
				b := []byte(good)
				b[i] = byte(c)
				if onlyWhatIsWritten(t, string(b)) {
					read++
				}
			}
		}
	}
	if read == 0 {
		t.Errorf("none was read")
	}
}

// G2: likewise of bytes of which some are changed, left out or put between.
func TestManyBytes(t *testing.T) {
	r := rand.New(rand.NewSource(11))
	read := 0
	for range 20000 {
		good, _ := Write(drawState(t, r))
		b := []byte(good)
		for range 1 + r.Intn(3) {
			i := r.Intn(len(b))
			switch r.Intn(4) {
			case 0:
				b = slices.Delete(b, i, i+1)
			case 1:
				b = slices.Insert(b, i, byte(r.Intn(8)))
			default:
				b[i] = byte(r.Intn(8))
			}
		}
		if onlyWhatIsWritten(t, string(b)) {
			read++
		}
	}
	if read == 0 {
		t.Errorf("none was read")
	}
}
