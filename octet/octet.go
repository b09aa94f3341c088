// Package octet puts numbers as bytes, and reads them, for all layers alike.
package octet

// Small puts a byte for each number, Wide two, the higher one first.
func Small(b []byte, nums ...int) []byte {
	for _, n := range nums {
		b = append(b, byte(n))
	}
	return b
}

// Wide: see Small.
func Wide(b []byte, nums ...int) []byte {
	for _, n := range nums {
		b = Small(b, n>>8, n)
	}
	return b
}

// Reader has the bytes that are not read yet.
type Reader struct{ rest string }

// Read has what one reads of the first bytes, and how many bytes that are. It is not whole, if the bytes end too early.
func Read[T any](b string, one func(r *Reader) T) (out T, size int, whole bool) {
	defer func() {
		if recover() != nil {
			whole = false
		}
	}()
	r := Reader{b}
	out = one(&r)
	return out, len(b) - len(r.rest), true
}

// Small panics where the bytes end, so that whoever reads need not ask for it at each number; Read recovers.
func (r *Reader) Small() int {
	if r.rest == "" {
		panic("the bytes end too early")
	}
	n := int(r.rest[0])
	r.rest = r.rest[1:]
	return n
}

// Wide is two bytes, the higher one first.
func (r *Reader) Wide() int {
	high := r.Small()
	return high<<8 + r.Small()
}
