package group

import (
	"portage/api"
	"portage/bound"
	"portage/node"
	"portage/pack"
	"portage/twin"
)

// hall is a group at work: its log and its nodes are changed in their places. With an error none of them is.
type hall struct{ api.Group }

// enter has a hall of a right group, in memory of its own, so that what was handed in is only read.
func enter(g api.Group) (hall, api.Errno) {
	h := hall{g}
	if e := h.check(); e != api.OK {
		return hall{}, e
	}
	return hall{twin.Group(g)}, api.OK
}

// check is done with one node ahead of the next one: a first node that doesn't fit is told, whatever a second one is.
func (h *hall) check() api.Errno {
	if e := pack.Check(h.Log); e != api.OK {
		return e
	}
	for _, s := range h.Nodes {
		is, e := node.Fits(h.Log, s)
		if e != api.OK {
			return e
		}
		if !is {
			return api.ErrForm
		}
	}
	return api.OK
}

func (h *hall) put(e api.Entry) (int, api.Errno) {
	log, answer, f := pack.Put(h.Log, e)
	if f != api.OK {
		return 0, f
	}
	h.Log = log
	return answer, api.OK
}

func (h *hall) run(i, n int) (int, api.Errno) {
	if !bound.In(i, 0, api.Nodes-1) {
		return 0, api.ErrRange
	}
	then, many, e := node.Run(h.Log, h.Nodes[i], n)
	if e != api.OK {
		return 0, e
	}
	h.Nodes[i] = then
	return many, api.OK
}

func (h *hall) cut(n int) api.Errno {
	log, e := pack.Cut(h.Log, n)
	if e != api.OK {
		return e
	}
	h.Log = log
	return api.OK
}
