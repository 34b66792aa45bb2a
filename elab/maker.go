package elab

import (
	"slices"

	"gantry/api"
	"gantry/num"
	"gantry/typing"
)

// A maker puts nodes into a table. It keeps where each is, as term.Put would
// look the whole table over for each node.
type maker struct {
	nodes []api.Node
	at    map[api.Node]int
	most  int // nodes
	calls int // macros that were made
	e     api.Errno
}

// newMaker is one that stands on a table of its own, which is t at first.
func newMaker(t api.Table, most int) *maker {
	m := &maker{nodes: slices.Clone(t.Nodes), at: map[api.Node]int{}, most: most}
	for at, n := range t.Nodes {
		m.at[n] = at
	}
	return m
}

// join is the node of s, those of its terms being l.
func (m *maker) join(s sense, l []int) (int, api.Errno) {
	id := s.put(m, l...)
	return id, m.e
}

// fail keeps the first error, behind which nothing is put.
func (m *maker) fail(e api.Errno) int {
	if m.e == api.OK {
		m.e = e
	}
	return 0
}

// put is the place of n with those arguments.
func (m *maker) put(n api.Node, args ...int) int {
	n.Len = int8(len(args))
	copy(n.Args[:], args)
	at, there := m.at[n]
	switch {
	case m.e != api.OK:
		return 0
	case there:
		return at
	case len(m.nodes) >= m.most:
		return m.fail(api.ErrMany)
	}
	m.at[n] = len(m.nodes)
	m.nodes = append(m.nodes, n)
	return m.at[n]
}

// kind puts the node of that kind (not OpApp), with n as its N.
func (m *maker) kind(op int8, n int, args ...int) int {
	var sorts []int
	for _, a := range args {
		sorts = append(sorts, m.nodes[a].Sort)
	}
	s, e := typing.Op(op, sorts)
	if e != api.OK { // only behind an error, where args are none: that one is kept
		return m.fail(e)
	}
	return m.put(api.Node{Op: op, Sort: s, N: n}, args...)
}

// app puts f, which is the function i, of args.
func (m *maker) app(f api.Fun, i int, args ...int) int {
	return m.put(api.Node{Op: api.OpApp, Sort: f.Res, Fun: i}, args...)
}

// macro puts the body of g's macro i, its parameters being args.
func (m *maker) macro(g api.Sig, i int, args ...int) int {
	if m.calls == api.MaxCalls {
		return m.fail(api.ErrMany)
	}
	m.calls++
	x := g.Macros[i]
	g.Macros = g.Macros[:i] // just those ahead are known in it, so it ends
	if e := fits(g, x); e != api.OK {
		return m.fail(e)
	}
	w := newWalk(g, m.join)
	for k, p := range x.Params {
		w.bind(p.Name, args[k])
	}
	id, e := w.term(x.Body)
	if e != api.OK {
		return m.fail(e)
	}
	return id
}

// number is that of x, which is a numeral.
func (m *maker) number(x api.Sexp) int {
	n, e := number(x)
	if e != api.OK {
		return m.fail(e)
	}
	return n
}

func (m *maker) sub(a, b int) int {
	n, e := num.Sub(a, b)
	if e != api.OK {
		return m.fail(e)
	}
	return n
}

func (m *maker) yes(...int) int {
	return api.True
}

func (m *maker) no(...int) int {
	return m.not(api.True)
}

func (m *maker) not(l ...int) int {
	return m.kind(api.OpNot, 0, l...)
}

func (m *maker) ite(l ...int) int {
	return m.kind(api.OpIte, 0, l...)
}

func (m *maker) atMost(l ...int) int {
	return m.kind(api.OpLe, 0, l...)
}

func (m *maker) below(l ...int) int {
	return m.kind(api.OpLt, 0, l...)
}

func (m *maker) atLeast(l ...int) int {
	return m.atMost(l[1], l[0])
}

func (m *maker) above(l ...int) int {
	return m.below(l[1], l[0])
}

// left puts nodes of that kind about l, from the left.
func (m *maker) left(op int8, l ...int) int {
	id := l[0]
	for _, a := range l[1:] {
		id = m.kind(op, 0, id, a)
	}
	return id
}

func (m *maker) and(l ...int) int {
	return m.left(api.OpAnd, l...)
}

func (m *maker) or(l ...int) int {
	return m.left(api.OpOr, l...)
}

func (m *maker) xor(l ...int) int {
	return m.left(api.OpXor, l...)
}

func (m *maker) implies(l ...int) int {
	last := len(l) - 1
	id := l[last]
	for _, a := range slices.Backward(l[:last]) {
		id = m.kind(api.OpImp, 0, a, id)
	}
	return id
}

func (m *maker) equal(l ...int) int {
	var o []int
	for i, a := range l[1:] {
		o = append(o, m.kind(api.OpEq, 0, l[i], a))
	}
	return m.and(o...)
}

func (m *maker) distinct(l ...int) int {
	// However few nodes the pairs have, no two of the OpAnds about them are the
	// same: where there can't be so many, the pairs, which may be far more than
	// l, need not be gone over.
	ands := len(l)*(len(l)-1)/2 - 1
	if ands > max(m.most, len(m.nodes)) {
		return m.fail(api.ErrMany)
	}
	var o []int
	for i, a := range l {
		for _, b := range l[i+1:] {
			o = append(o, m.not(m.kind(api.OpEq, 0, a, b)))
		}
	}
	return m.and(o...)
}

// diff puts that x less y is at most n.
func (m *maker) diff(x, y, n int) int {
	return m.kind(api.OpDiff, n, x, y)
}

func (m *maker) diffAtMost(x, y, n int) int {
	return m.diff(x, y, n)
}

func (m *maker) diffBelow(x, y, n int) int {
	return m.diff(x, y, m.sub(n, 1))
}

func (m *maker) diffAtLeast(x, y, n int) int {
	return m.diff(y, x, m.sub(0, n))
}

func (m *maker) diffAbove(x, y, n int) int {
	return m.diff(y, x, m.sub(m.sub(0, n), 1))
}

func (m *maker) diffEqual(x, y, n int) int {
	return m.and(m.diffAtMost(x, y, n), m.diffAtLeast(x, y, n))
}
