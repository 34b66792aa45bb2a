package core

import (
	"slices"

	"gantry/api"
	"gantry/num"
)

// node is a node of that kind, of Bool.
func node(op int8, args ...int) api.Node {
	n := api.Node{Op: op, Len: int8(len(args)), Sort: api.Bool}
	copy(n.Args[:], args)
	return n
}

// split is the base and the offset of the node at id. It is one step, as l is
// in order: an OpAdd stands upon a base there.
func split(l []api.Node, id int) (base, n int) {
	switch x := l[id]; x.Op {
	case api.OpNum:
		return api.Zero, x.N
	case api.OpAdd:
		return x.Args[0], x.N
	}
	return id, 0
}

// A maker puts nodes into a core table. It keeps where each is, and puts what
// offset would, as term.Put and offset.Le would look the whole table over for
// each node.
type maker struct {
	nodes []api.Node
	at    map[api.Node]int
	most  int
	kinds kinds
	e     api.Errno
}

// kinds tell what is put as the image of a node of each kind, whose Args are
// images.
type kinds [api.OpApp + 1]func(m *maker, n api.Node) int

// newMaker is one that stands on a table of its own, which is t at first.
func newMaker(t api.Table, most int) *maker {
	m := &maker{nodes: slices.Clone(t.Nodes), at: map[api.Node]int{}, most: most, kinds: allKinds()}
	for at, n := range t.Nodes {
		m.at[n] = at
	}
	return m
}

func allKinds() kinds {
	return kinds{
		api.OpTrue: (*maker).put,
		api.OpNot:  (*maker).not,
		api.OpAnd:  (*maker).put,
		api.OpOr:   (*maker).put,
		api.OpXor:  (*maker).unlike,
		api.OpImp:  (*maker).implies,
		api.OpEq:   (*maker).equal,
		api.OpIte:  (*maker).ite,
		api.OpLe:   (*maker).le,
		api.OpLt:   (*maker).lt,
		api.OpNum:  (*maker).put,
		api.OpAdd:  (*maker).sum,
		api.OpDiff: (*maker).diff,
		api.OpApp:  (*maker).put,
	}
}

// image is the place of the image of n, whose Args are images; or the first
// error that was met in putting it, or ahead of it.
func (m *maker) image(n api.Node) (int, api.Errno) {
	at := m.kinds[n.Op](m, n)
	return at, m.e
}

// fail keeps the first error, behind which nothing is put.
func (m *maker) fail(e api.Errno) int {
	if m.e == api.OK {
		m.e = e
	}
	return 0
}

// number is n, if there was no error.
func (m *maker) number(n int, e api.Errno) int {
	if e != api.OK {
		return m.fail(e)
	}
	return n
}

// put is the place of n as it is.
func (m *maker) put(n api.Node) int {
	at, there := m.at[n]
	switch {
	case m.e != api.OK:
		return 0
	case there:
		return at
	case len(m.nodes) >= m.most:
		return m.fail(api.ErrMany)
	}
	m.at[n] = len(m.nodes)
	m.nodes = append(m.nodes, n)
	return m.at[n]
}

func (m *maker) not(n api.Node) int {
	if a := m.nodes[n.Args[0]]; a.Op == api.OpNot {
		return a.Args[0]
	}
	return m.put(n)
}

// negation is that of the node at id.
func (m *maker) negation(id int) int {
	return m.not(node(api.OpNot, id))
}

func (m *maker) implies(n api.Node) int {
	return m.put(node(api.OpOr, m.negation(n.Args[0]), n.Args[1]))
}

func (m *maker) unlike(n api.Node) int {
	return m.negation(m.equal(node(api.OpEq, n.Args[0], n.Args[1])))
}

func (m *maker) equal(n api.Node) int {
	a, b := n.Args[0], n.Args[1]
	switch {
	case m.nodes[a].Sort == api.Bool:
		return m.put(n)
	case m.nodes[a].Sort == api.Int:
		return m.put(node(api.OpAnd, m.atMost(a, b, 0), m.atMost(b, a, 0)))
	case a == b:
		return api.True
	}
	return m.put(node(api.OpEq, min(a, b), max(a, b)))
}

func (m *maker) ite(n api.Node) int {
	b, c := n.Args[1], n.Args[2]
	if b == c {
		return b
	}
	it := m.put(n)
	for _, id := range [...]int{b, c} {
		switch n.Sort {
		case api.Bool:
		case api.Int:
			m.atMost(it, id, 0)
			m.atMost(id, it, 0)
		default:
			m.equal(node(api.OpEq, it, id))
		}
	}
	return it
}

func (m *maker) le(n api.Node) int {
	return m.atMost(n.Args[0], n.Args[1], 0)
}

func (m *maker) lt(n api.Node) int {
	return m.atMost(n.Args[0], n.Args[1], -1)
}

func (m *maker) diff(n api.Node) int {
	return m.atMost(n.Args[0], n.Args[1], n.N)
}

// sum puts what offset.Add does.
func (m *maker) sum(n api.Node) int {
	base, k := split(m.nodes, n.Args[0])
	k = m.number(num.Add(k, n.N))
	switch {
	case k == 0:
		return base
	case base == api.Zero:
		return m.put(api.Node{Op: api.OpNum, Sort: api.Int, N: k})
	}
	n.Args[0], n.N = base, k
	return m.put(n)
}

// atMost puts what offset.Le does: that the node at a less that at b is at most c.
func (m *maker) atMost(a, b, c int) int {
	x, first := split(m.nodes, a)
	y, second := split(m.nodes, b)
	d := m.number(num.Sub(c, first))
	d = m.number(num.Add(d, second))
	switch {
	case x != y:
		n := node(api.OpDiff, x, y)
		n.N = d
		return m.put(n)
	case d >= 0:
		return api.True
	}
	return m.negation(api.True)
}
