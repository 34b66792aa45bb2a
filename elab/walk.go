package elab

import (
	"slices"

	"gantry/api"
	"gantry/lex"
	"gantry/sexpr"
	"gantry/sig"
	"gantry/typing"
)

// A sense is what an expression says, but for the terms that stand within it:
// of their sorts it tells its sort, of their nodes it puts its node.
type sense struct {
	within []api.Sexp
	sort   func(l []int) (int, api.Errno)
	put    func(m *maker, l ...int) int
}

func (s sense) sortOf(l []int) (int, api.Errno) {
	return s.sort(l)
}

// A walk goes over expressions, to learn one thing of each: its sort, or its
// node. Both ways the same names are known, and the same comes first.
type walk struct {
	g           api.Sig        // whose functions and macros are known
	vars        map[string]int // what is learnt of the variables
	connectives map[string]connective
	join        func(s sense, l []int) (int, api.Errno) // what is learnt of s, if l is learnt of what is within
}

func newWalk(g api.Sig, join func(sense, []int) (int, api.Errno)) *walk {
	return &walk{g, map[string]int{}, connectives(), join}
}

// bind lets a variable have that name, till that is undone.
func (w *walk) bind(name string, is int) (undo func()) {
	was, there := w.vars[name]
	w.vars[name] = is
	return func() {
		delete(w.vars, name)
		if there {
			w.vars[name] = was
		}
	}
}

// term is what is learnt of x, which may be.
func (w *walk) term(x api.Sexp) (int, api.Errno) {
	if sexpr.Head(x) == "let" {
		return w.let(x.L[1:])
	}
	s, e := w.sense(x)
	if e != api.OK {
		return 0, e
	}
	l, e := w.terms(s.within)
	if e != api.OK {
		return 0, e
	}
	return w.join(s, l)
}

// terms is term of each, up to the first error.
func (w *walk) terms(l []api.Sexp) ([]int, api.Errno) {
	var o []int
	for _, x := range l {
		is, e := w.term(x)
		if e != api.OK {
			return nil, e
		}
		o = append(o, is)
	}
	return o, api.OK
}

// let is what is learnt of a let with l behind that word.
func (w *walk) let(l []api.Sexp) (int, api.Errno) {
	if len(l) != 2 {
		return 0, api.ErrForm
	}
	names, terms, ok := bindings(l[0])
	if !ok {
		return 0, api.ErrForm
	}
	// All of them ahead of the first name: they see none of these.
	values, e := w.terms(terms)
	if e != api.OK {
		return 0, e
	}
	for i, name := range names {
		defer w.bind(name, values[i])()
	}
	return w.term(l[1])
}

// bindings are the names, and their terms, that stand in x; false, if x is not
// what a let asks for.
func bindings(x api.Sexp) (names []string, terms []api.Sexp, ok bool) {
	seen := map[string]struct{}{}
	for _, b := range x.L { // of what is no list there are none
		if len(b.L) != 2 || b.L[0].Kind != api.SxSym {
			return nil, nil, false
		}
		name := b.L[0].Text
		if _, twice := seen[name]; twice || lex.Reserved(name) {
			return nil, nil, false
		}
		seen[name] = struct{}{}
		names = append(names, name)
		terms = append(terms, b.L[1])
	}
	return names, terms, len(names) > 0
}

// sense is that of x, which is no let.
func (w *walk) sense(x api.Sexp) (sense, api.Errno) {
	switch {
	case isNumeral(x):
		return numeral(x), api.OK
	case x.Kind == api.SxSym:
		return w.name(x.Text)
	case len(x.L) > 0 && x.L[0].Kind == api.SxSym:
		return w.list(x.L[0].Text, x.L[1:])
	}
	return sense{}, api.ErrForm
}

func numeral(x api.Sexp) sense {
	put := func(m *maker, _ ...int) int { return m.kind(api.OpNum, m.number(x)) }
	return sense{nil, rule{api.OpNum, 0}.sort, put}
}

// name is the sense of a name that stands by itself.
func (w *walk) name(name string) (sense, api.Errno) {
	is, ok := w.vars[name]
	switch {
	case ok:
		return variable(is), api.OK
	case name == "true":
		return sense{nil, rule{api.OpTrue, 0}.sort, (*maker).yes}, api.OK
	case name == "false":
		return sense{nil, rule{api.OpTrue, 0}.sort, (*maker).no}, api.OK
	}
	return w.call(name, nil)
}

// variable is the sense of one of which that is learnt, whichever way.
func variable(is int) sense {
	sort := func([]int) (int, api.Errno) { return is, api.OK }
	return sense{nil, sort, func(*maker, ...int) int { return is }}
}

// list is the sense of a list of that name and args.
func (w *walk) list(name string, args []api.Sexp) (sense, api.Errno) {
	if c, ok := w.connectives[name]; ok {
		return w.connected(c, args)
	}
	_, ok := w.vars[name]
	switch {
	case name == "+" || name == "-":
		return sum(name, args)
	case ok || name == "true" || name == "false": // these have no arguments, not even none
		return sense{}, api.ErrForm
	}
	return w.call(name, args)
}

// call is the sense of the function or the macro of that name, with args.
func (w *walk) call(name string, args []api.Sexp) (sense, api.Errno) {
	if i, ok := sig.Fun(w.g, name); ok {
		f := w.g.Funs[i]
		put := func(m *maker, l ...int) int { return m.app(f, i, l...) }
		return called(args, f.Args[:f.Len], f.Res, put)
	}
	if i, ok := sig.Macro(w.g, name); ok {
		x := w.g.Macros[i]
		var sorts []int
		for _, p := range x.Params {
			sorts = append(sorts, p.Sort)
		}
		put := func(m *maker, l ...int) int { return m.macro(w.g, i, l...) }
		return called(args, sorts, x.Res, put)
	}
	if lex.Reserved(name) {
		return sense{}, api.ErrForm
	}
	return sense{}, api.ErrName
}

// called is the sense of what has args of those sorts, and is of the sort res.
func called(args []api.Sexp, sorts []int, res int, put func(*maker, ...int) int) (sense, api.Errno) {
	if len(args) != len(sorts) {
		return sense{}, api.ErrForm
	}
	sort := func(l []int) (int, api.Errno) {
		if !slices.Equal(l, sorts) {
			return 0, api.ErrSort
		}
		return res, api.OK
	}
	return sense{args, sort, put}, api.OK
}

// A rule is that of a kind of nodes, which has so many arguments.
type rule struct {
	op   int8
	args int
}

// sort is that of what has arguments of the sorts l. Where these are more than
// the rule has, it is asked of the first, the second on, and so on.
func (r rule) sort(l []int) (int, api.Errno) {
	sort := 0
	for i := range len(l) - r.args + 1 {
		s, e := typing.Op(r.op, l[i:i+r.args])
		if e != api.OK {
			return 0, e
		}
		sort = s
	}
	return sort, api.OK
}

// A connective is a name with a rule.
type connective struct {
	rule
	more bool // there may be more arguments than the rule has
	put  func(m *maker, l ...int) int

	// Of a comparison, else nothing: the one that it is when turned about, and
	// what it puts where x - y stands to its left, n to its right.
	about string
	diff  func(m *maker, x, y, n int) int
}

// connectives are those of the core, but for + and -.
func connectives() map[string]connective {
	return map[string]connective{
		"not":      {rule{api.OpNot, 1}, false, (*maker).not, "", nil},
		"and":      {rule{api.OpAnd, 2}, true, (*maker).and, "", nil},
		"or":       {rule{api.OpOr, 2}, true, (*maker).or, "", nil},
		"xor":      {rule{api.OpXor, 2}, true, (*maker).xor, "", nil},
		"=>":       {rule{api.OpImp, 2}, true, (*maker).implies, "", nil},
		"distinct": {rule{api.OpEq, 2}, true, (*maker).distinct, "", nil},
		"ite":      {rule{api.OpIte, 3}, false, (*maker).ite, "", nil},
		"=":        {rule{api.OpEq, 2}, true, (*maker).equal, "=", (*maker).diffEqual},
		"<=":       {rule{api.OpLe, 2}, false, (*maker).atMost, ">=", (*maker).diffAtMost},
		"<":        {rule{api.OpLt, 2}, false, (*maker).below, ">", (*maker).diffBelow},
		">=":       {rule{api.OpLe, 2}, false, (*maker).atLeast, "<=", (*maker).diffAtLeast},
		">":        {rule{api.OpLt, 2}, false, (*maker).above, "<", (*maker).diffAbove},
	}
}

// connected is the sense of c with args.
func (w *walk) connected(c connective, args []api.Sexp) (sense, api.Errno) {
	switch {
	case len(args) < c.args || len(args) > c.args && !c.more:
		return sense{}, api.ErrForm
	case len(args) != 2 || c.diff == nil:
	case isDifference(args[0]) && isNumeral(args[1]):
		return c.difference(args[0], args[1]), api.OK
	case isNumeral(args[0]) && isDifference(args[1]):
		return w.connectives[c.about].difference(args[1], args[0]), api.OK
	}
	return sense{args, c.sort, c.put}, api.OK
}

// isDifference tells whether x, which may be, is one term less another that is
// no numeral.
func isDifference(x api.Sexp) bool {
	return sexpr.Head(x) == "-" && len(x.L) == 3 && !isNumeral(x.L[2])
}

// difference is the sense of d, which is a difference, held against n.
func (c connective) difference(d, n api.Sexp) sense {
	put := func(m *maker, l ...int) int { return c.diff(m, l[0], l[1], m.number(n)) }
	return sense{d.L[1:], rule{api.OpDiff, 2}.sort, put}
}

// sum is the sense of + or - with args. (A difference is none of the logic by
// itself.)
func sum(name string, args []api.Sexp) (sense, api.Errno) {
	one := name == "-" && len(args) == 1
	switch {
	case len(args) != 2 && !one:
		return sense{}, api.ErrForm
	case one:
	case isNumeral(args[1]):
		return offset(args[0], args[1], name == "-"), api.OK
	case name == "+" && isNumeral(args[0]):
		return offset(args[1], args[0], false), api.OK
	}
	none := func([]int) (int, api.Errno) { return 0, api.ErrLogic }
	return sense{args, none, nil}, api.OK
}

// offset is the sense of x with the number of n put to it, or, if less, taken
// from it.
func offset(x, n api.Sexp, less bool) sense {
	put := func(m *maker, l ...int) int {
		if less {
			return m.kind(api.OpAdd, m.sub(0, m.number(n)), l...)
		}
		return m.kind(api.OpAdd, m.number(n), l...)
	}
	return sense{[]api.Sexp{x}, rule{api.OpAdd, 1}.sort, put}
}
