// Package op: ops: see doc/01-op.md.
package op

import (
	"portage/api"
	"portage/bound"
)

// Check tells whether an op is one that may be done.
func Check(x api.Op) api.Errno {
	if steps()[x.Kind] == nil {
		return api.ErrKind
	}
	if !inBounds(x) {
		return api.ErrRange
	}
	if !hasTo(x) && x.To != 0 || !hasN(x) && x.N != 0 {
		return api.ErrForm
	}
	return api.OK
}

// Do does an op: the values then, and what its key is then, or Fail and the values as they were.
func Do(vals [api.Keys]int, x api.Op) ([api.Keys]int, int, api.Errno) {
	if e := Check(x); e != api.OK {
		return [api.Keys]int{}, 0, e
	}
	for _, v := range vals {
		if !isVal(v) {
			return [api.Keys]int{}, 0, api.ErrRange
		}
	}
	then := vals
	if !steps()[x.Kind](&then, x) {
		return vals, api.Fail, api.OK
	}
	return then, then[x.Key], api.OK
}

// steps has the step of each kind of op. It tells whether it can be done; if not, the values that it leaves are of no use.
func steps() map[int]func(vals *[api.Keys]int, x api.Op) bool {
	return map[int]func(vals *[api.Keys]int, x api.Op) bool{
		api.Set: func(vals *[api.Keys]int, x api.Op) bool {
			vals[x.Key] = x.N
			return true
		},
		api.Add: func(vals *[api.Keys]int, x api.Op) bool {
			return more(vals, x.Key, x.N)
		},
		// Less comes ahead of more: a key that is moved to itself must have so much, but may be full.
		api.Move: func(vals *[api.Keys]int, x api.Op) bool {
			return more(vals, x.Key, -x.N) && more(vals, x.To, x.N)
		},
		api.Get: func(vals *[api.Keys]int, x api.Op) bool {
			return true
		},
	}
}

func more(vals *[api.Keys]int, key, n int) bool {
	vals[key] += n
	return isVal(vals[key])
}

func inBounds(x api.Op) bool {
	if !isKey(x.Key) || hasTo(x) && !isKey(x.To) {
		return false
	}
	if x.Kind == api.Add {
		return bound.In(x.N, -api.MaxVal, api.MaxVal)
	}
	return !hasN(x) || isVal(x.N)
}

func hasTo(x api.Op) bool { return x.Kind == api.Move }

func hasN(x api.Op) bool { return x.Kind != api.Get }

func isKey(n int) bool { return bound.In(n, 0, api.Keys-1) }

func isVal(n int) bool { return bound.In(n, 0, api.MaxVal) }
