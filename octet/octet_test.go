package octet

import "testing"

// Small and Wide put behind what is there.
func TestPut(t *testing.T) {
	b := Small([]byte("a"), 0, 1, 255)
	b = Wide(b, 0, 255, 256, 65535)
	b = Small(b)
	b = Wide(b)
	if want := "a\x00\x01\xff\x00\x00\x00\xff\x01\x00\xff\xff"; string(b) != want {
		t.Errorf("%q, not %q", b, want)
	}
}

// three reads a byte, two bytes, and a byte.
func three(r *Reader) [3]int { return [3]int{r.Small(), r.Wide(), r.Small()} }

func TestRead(t *testing.T) {
	for _, c := range []struct {
		b     string
		want  [3]int
		size  int
		whole bool
	}{
		{"\x01\x02\x03\x04", [3]int{1, 515, 4}, 4, true},
		{"\xff\xff\xff\xff", [3]int{255, 65535, 255}, 4, true},
		{"\x00\x00\x00\x00\x00", [3]int{}, 4, true},
		{"\x01\x02\x03", [3]int{}, 0, false},
		{"\x01\x02", [3]int{}, 0, false},
		{"\x01", [3]int{}, 0, false},
		{"", [3]int{}, 0, false},
	} {
		if got, size, whole := Read(c.b, three); got != c.want || size != c.size || whole != c.whole {
			t.Errorf("%q: %v %d %v, not %v %d %v", c.b, got, size, whole, c.want, c.size, c.whole)
		}
	}
	if got, size, whole := Read("", func(*Reader) int { return 7 }); got != 7 || size != 0 || !whole {
		t.Errorf("of no bytes nothing was read: %d %d %v", got, size, whole)
	}
}
