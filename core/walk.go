package core

import (
	"slices"

	"gantry/api"
)

// none stands where there is no image yet.
const none = -1

// A walk goes over a table's nodes, Args ahead, and keeps where the image of
// each one is that it came to.
type walk struct {
	t      api.Table
	images []int
	put    func(n api.Node) (int, api.Errno) // the image of n, whose Args are images
}

func newWalk(t api.Table, put func(api.Node) (int, api.Errno)) *walk {
	return &walk{t, slices.Repeat([]int{none}, len(t.Nodes)), put}
}

// missing is the first Arg of the node at id that has no image yet.
func (w *walk) missing(id int) (int, bool) {
	n := w.t.Nodes[id]
	for _, a := range n.Args[:n.Len] {
		if w.images[a] == none {
			return a, true
		}
	}
	return 0, false
}

// make puts the image of the node at id, those of its Args being there.
func (w *walk) make(id int) api.Errno {
	n := w.t.Nodes[id]
	for i, a := range n.Args[:n.Len] {
		n.Args[i] = w.images[a]
	}
	at, e := w.put(n)
	w.images[id] = at
	return e
}

// at is where the image of the node at root is. What must come first is kept in
// a row, as a chain of Args may be longer than calls may stand within calls.
func (w *walk) at(root int) (int, api.Errno) {
	for open := []int{root}; len(open) > 0; {
		last := len(open) - 1
		id := open[last]
		if a, ok := w.missing(id); ok {
			open = append(open, a)
			continue
		}
		if e := w.make(id); e != api.OK {
			return 0, e
		}
		open = open[:last]
	}
	return w.images[root], api.OK
}
