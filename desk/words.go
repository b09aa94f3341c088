package desk

import (
	"strconv"
	"strings"

	"portage/api"
)

const maxDigits = 6

// must leaves the line that has an error.
func must(e api.Errno) {
	if e != api.OK {
		panic(e)
	}
}

// tell has a blank between each two.
func tell(nums ...int) string {
	var words []string
	for _, n := range nums {
		words = append(words, strconv.Itoa(n))
	}
	return strings.Join(words, " ")
}

func numbers(words []string) []int {
	var out []int
	for _, w := range words {
		out = append(out, number(w))
	}
	return out
}

// number takes each number by one text alone.
func number(word string) int {
	if word == "" || len(word) > maxDigits || word[0] == '0' && word != "0" {
		panic(api.ErrForm)
	}
	n := 0
	for _, c := range []byte(word) {
		if c < '0' || c > '9' {
			panic(api.ErrForm)
		}
		n = 10*n + int(c-'0')
	}
	return n
}

func signed(word string) int {
	digits, minus := strings.CutPrefix(word, "-")
	n := number(digits)
	if !minus {
		return n
	}
	if n == 0 {
		panic(api.ErrForm)
	}
	return -n
}

func zero(word string) int {
	if word != "0" {
		panic(api.ErrForm)
	}
	return 0
}

// kind of an op, and how its N is read.
type kind struct {
	of    int
	readN func(word string) int
}

func kinds() map[string]kind {
	return map[string]kind{
		"set": {api.Set, number},
		"add": {api.Add, signed},
		"get": {api.Get, zero},
	}
}

// readOp reads the words of an op: which one, its key, and its N.
func readOp(words []string) api.Op {
	k, is := kinds()[words[0]]
	if !is {
		panic(api.ErrForm)
	}
	return api.Op{Kind: k.of, Key: number(words[1]), N: k.readN(words[2])}
}
