package desk

import (
	"portage/api"
	"portage/bound"
	"portage/group"
	"portage/trace"
)

// clerk has the group, and all entries that were put, those that are packed too.
type clerk struct {
	group api.Group
	all   []api.Entry
}

func newClerk() *clerk { return &clerk{group: group.Begin()} }

func (c *clerk) acts() map[string]act {
	return map[string]act{
		"open":  {2, func(words []string) string { return c.session(api.Open, words) }},
		"close": {2, func(words []string) string { return c.session(api.Close, words) }},
		"call":  {7, c.call},
		"run":   {2, c.run},
		"cut":   {1, c.cut},
		"vals":  {1, c.vals},
		"kept":  {1, c.kept},
		"done":  {2, c.done},
	}
}

func (c *clerk) session(kind int, words []string) string {
	n := numbers(words)
	return c.put(api.Entry{Kind: kind, Time: n[0], Client: n[1]})
}

func (c *clerk) call(words []string) string {
	n := numbers(words[:4])
	return c.put(api.Entry{Kind: api.Call, Time: n[0], Client: n[1], Seq: n[2], Ack: n[3], Op: readOp(words[4:])})
}

func (c *clerk) put(e api.Entry) string {
	g, answer, f := group.Put(c.group, e)
	must(f)
	c.group, c.all = g, append(c.all, e)
	return tell(answer)
}

func (c *clerk) run(words []string) string {
	n := numbers(words)
	g, many, e := group.Run(c.group, n[0], n[1])
	must(e)
	c.group = g
	return tell(many)
}

func (c *clerk) cut(words []string) string {
	g, e := group.Cut(c.group, number(words[0]))
	must(e)
	c.group = g
	return "ok"
}

func (c *clerk) vals(words []string) string {
	s := c.node(words[0])
	return tell(s.Vals[:]...)
}

func (c *clerk) kept(words []string) string {
	s := c.node(words[0])
	many := 0
	for _, o := range s.Table {
		many += len(o.Kept)
	}
	return tell(s.At, many)
}

func (c *clerk) done(words []string) string {
	n := numbers(words)
	many, e := trace.Once(c.all, n[0], n[1])
	must(e)
	return tell(many)
}

func (c *clerk) node(word string) api.State {
	n := number(word)
	if !bound.In(n, 0, api.Nodes-1) {
		panic(api.ErrRange)
	}
	return c.group.Nodes[n]
}
