package bound

import (
	"math"
	"testing"
)

func TestIn(t *testing.T) {
	for _, c := range []struct {
		n, low, high int
		want         bool
	}{
		{0, 0, 0, true},
		{1, 1, 3, true},
		{3, 1, 3, true},
		{0, 1, 3, false},
		{4, 1, 3, false},
		{2, 3, 1, false},
		{math.MinInt, -1, 1, false},
		{math.MaxInt, -1, 1, false},
	} {
		if got := In(c.n, c.low, c.high); got != c.want {
			t.Errorf("In(%d, %d, %d) is %v", c.n, c.low, c.high, got)
		}
	}
}
