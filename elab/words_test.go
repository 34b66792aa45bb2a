package elab_test

import (
	"math/big"
	"slices"
	"strings"
	"testing"

	"gantry/api"
	"gantry/elab"
	"gantry/sexpr"
	"gantry/sig"
	"gantry/term"
	"gantry/typing"
)

// The chapter's words, read once more: a reading tells what Sort and Term must
// answer. It stops by a panic with the first error.
type reading struct {
	g           api.Sig
	vars        []known // the innermost behind
	nodes       []api.Node
	most, calls int
}

// A known is a variable: its sort, and, where it is made, its node.
type known struct {
	name       string
	sort, node int
}

var most = big.NewInt(api.Most)

func stop(when bool, e api.Errno) {
	if when {
		panic(e)
	}
}

// caught is the error that do stopped with.
func caught(do func()) (e api.Errno) {
	defer func() {
		if x := recover(); x != nil {
			e = x.(api.Errno)
		}
	}()
	do()
	return api.OK
}

// numeral is x's number, nil if it is no numeral.
func numeral(x api.Sexp) *big.Int {
	minus := x.Kind == api.SxList && len(x.L) == 2 && x.L[0].Kind == api.SxSym && x.L[0].Text == "-" && x.L[1].Kind == api.SxNum
	if minus {
		return new(big.Int).Neg(numeral(x.L[1]))
	}
	if x.Kind != api.SxNum {
		return nil
	}
	n, _ := new(big.Int).SetString(x.Text, 10)
	return n
}

// heads are the least and the greatest numbers of arguments of what is no
// function.
var heads = map[string][2]int{
	"not": {1, 1}, "ite": {3, 3}, "and": {2, 1e9}, "or": {2, 1e9}, "xor": {2, 1e9}, "=>": {2, 1e9}, "=": {2, 1e9}, "distinct": {2, 1e9},
	"<=": {2, 2}, "<": {2, 2}, ">=": {2, 2}, ">": {2, 2}, "+": {2, 2}, "-": {1, 2},
}

// difference is x, y and n of a comparison of x - y with n, and the comparison
// as it is with n on the right.
func difference(head string, args []api.Sexp) (x, y api.Sexp, n *big.Int, how string, ok bool) {
	turned, is := map[string]string{"<=": ">=", "<": ">", ">=": "<=", ">": "<", "=": "="}[head]
	if !is || len(args) != 2 {
		return
	}
	for i, d := range args {
		n := numeral(args[1-i])
		if n != nil && d.Kind == api.SxList && len(d.L) == 3 && d.L[0].Kind == api.SxSym && d.L[0].Text == "-" && numeral(d.L[2]) == nil {
			return d.L[1], d.L[2], n, []string{head, turned}[i], true
		}
	}
	return
}

// offset is the term and the number of + and - that is of the logic.
func offset(head string, args []api.Sexp) (x api.Sexp, n *big.Int, ok bool) {
	if head != "+" && head != "-" || len(args) != 2 {
		return
	}
	a, b := numeral(args[0]), numeral(args[1])
	switch {
	case b != nil && head == "+":
		return args[0], b, true
	case b != nil:
		return args[0], new(big.Int).Neg(b), true
	case a != nil && head == "+":
		return args[1], a, true
	}
	return
}

// variable is the innermost one of that name.
func (r *reading) variable(name string) (v known, ok bool) {
	for _, x := range r.vars {
		if x.name == name {
			v, ok = x, true
		}
	}
	return v, ok
}

// params are the sorts of a function's or a macro's arguments, and its own.
func (r *reading) params(name string) (l []int, res int, ok bool) {
	for _, f := range r.g.Funs {
		if f.Name == name {
			return f.Args[:f.Len], f.Res, true
		}
	}
	for _, m := range r.g.Macros {
		if m.Name == name {
			for _, p := range m.Params {
				l = append(l, p.Sort)
			}
			return l, m.Res, true
		}
	}
	return nil, 0, false
}

// bound are the names and the terms of a let, which it must be.
func bound(x api.Sexp) (names []string, terms []api.Sexp) {
	stop(len(x.L) != 3 || x.L[1].Kind != api.SxList || len(x.L[1].L) == 0, api.ErrForm)
	for _, b := range x.L[1].L {
		stop(b.Kind != api.SxList || len(b.L) != 2 || b.L[0].Kind != api.SxSym, api.ErrForm)
		name := b.L[0].Text
		stop(slices.Contains(strings.Fields(reserved), name) || slices.Contains(names, name), api.ErrForm)
		names, terms = append(names, name), append(terms, b.L[1])
	}
	return names, terms
}

// sort is x's.
func (r *reading) sort(x api.Sexp) int {
	if numeral(x) != nil {
		return api.Int
	}
	stop(x.Kind == api.SxKey, api.ErrForm)
	name, args := x.Text, []api.Sexp(nil)
	if x.Kind == api.SxList {
		stop(len(x.L) == 0 || x.L[0].Kind != api.SxSym, api.ErrForm)
		name, args = x.L[0].Text, x.L[1:]
	}
	v, isVar := r.variable(name)
	if x.Kind == api.SxSym && isVar {
		return v.sort
	}
	if x.Kind == api.SxSym && (name == "true" || name == "false") {
		return api.Bool
	}
	if x.Kind == api.SxList && name == "let" {
		return r.sortLet(x)
	}
	if n, is := heads[name]; is && x.Kind == api.SxList {
		stop(len(args) < n[0] || len(args) > n[1], api.ErrForm)
		return r.sortHead(name, args)
	}
	stop(isVar || name == "true" || name == "false", api.ErrForm)
	stop(slices.Contains(strings.Fields(reserved), name), api.ErrForm)
	want, res, ok := r.params(name)
	stop(!ok, api.ErrName)
	stop(len(args) != len(want), api.ErrForm)
	stop(!slices.Equal(r.sorts(args), want), api.ErrSort)
	return res
}

func (r *reading) sorts(l []api.Sexp) (o []int) {
	for _, x := range l {
		o = append(o, r.sort(x))
	}
	return o
}

func (r *reading) sortLet(x api.Sexp) int {
	names, terms := bound(x)
	sorts, had := r.sorts(terms), len(r.vars)
	for i, name := range names {
		r.vars = append(r.vars, known{name: name, sort: sorts[i]})
	}
	defer func() { r.vars = r.vars[:had] }()
	return r.sort(x.L[2])
}

// sortHead is the sort of a list with one of heads, and as many args as may be.
func (r *reading) sortHead(head string, args []api.Sexp) int {
	if x, y, _, _, ok := difference(head, args); ok {
		stop(!slices.Equal(r.sorts([]api.Sexp{x, y}), []int{api.Int, api.Int}), api.ErrSort)
		return api.Bool
	}
	if x, _, ok := offset(head, args); ok {
		stop(r.sort(x) != api.Int, api.ErrSort)
		return api.Int
	}
	l := r.sorts(args)
	switch head {
	case "+", "-":
		panic(api.ErrLogic)
	case "ite":
		stop(l[0] != api.Bool || l[1] != l[2] || l[1] < 0, api.ErrSort)
		return l[1]
	case "=", "distinct":
		stop(slices.Max(l) != slices.Min(l) || l[0] < 0, api.ErrSort)
	case "not", "and", "or", "xor", "=>":
		stop(slices.Max(l) != api.Bool || slices.Min(l) != api.Bool, api.ErrSort)
	default:
		stop(l[0] != api.Int || l[1] != api.Int, api.ErrSort)
	}
	return api.Bool
}

// put is the place of that node.
func (r *reading) put(op int8, sort, fun, n int, l ...int) int {
	x := api.Node{Op: op, Len: int8(len(l)), Sort: sort, Fun: fun, N: n}
	copy(x.Args[:], l)
	if at := slices.Index(r.nodes, x); at >= 0 {
		return at
	}
	stop(len(r.nodes) >= r.most, api.ErrMany)
	r.nodes = append(r.nodes, x)
	return len(r.nodes) - 1
}

func may(n *big.Int) int {
	stop(n.CmpAbs(most) > 0, api.ErrOver)
	return int(n.Int64())
}

// node is that of x, of which the sort is known.
func (r *reading) node(x api.Sexp) int {
	if n := numeral(x); n != nil {
		return r.put(api.OpNum, api.Int, 0, may(n))
	}
	if x.Kind == api.SxSym {
		if v, is := r.variable(x.Text); is {
			return v.node
		}
		return r.nodeCall(x.Text, nil)
	}
	name, args := x.L[0].Text, x.L[1:]
	if name == "let" {
		return r.nodeLet(x)
	}
	if _, is := heads[name]; is {
		return r.nodeHead(name, args)
	}
	return r.nodeCall(name, r.each(args))
}

func (r *reading) each(l []api.Sexp) (o []int) {
	for _, x := range l {
		o = append(o, r.node(x))
	}
	return o
}

func (r *reading) nodeLet(x api.Sexp) int {
	names, terms := bound(x)
	l, had := r.each(terms), len(r.vars)
	for i, name := range names {
		r.vars = append(r.vars, known{name: name, node: l[i]})
	}
	o := r.node(x.L[2])
	r.vars = r.vars[:had]
	return o
}

func (r *reading) nodeCall(name string, l []int) int {
	switch name {
	case "true":
		return api.True
	case "false":
		return r.put(api.OpNot, api.Bool, 0, 0, api.True)
	}
	for i, f := range r.g.Funs {
		if f.Name == name {
			return r.put(api.OpApp, f.Res, i, 0, l...)
		}
	}
	at := slices.IndexFunc(r.g.Macros, func(m api.Macro) bool { return m.Name == name })
	stop(r.calls == 300, api.ErrMany)
	r.calls++
	m, g, vars := r.g.Macros[at], r.g, r.vars
	r.g.Macros, r.vars = g.Macros[:at], nil
	for i, p := range m.Params {
		r.vars = append(r.vars, known{p.Name, p.Sort, l[i]})
	}
	stop(r.sort(m.Body) != m.Res, api.ErrSort)
	o := r.node(m.Body)
	r.g, r.vars = g, vars
	return o
}

func (r *reading) nodeHead(head string, args []api.Sexp) int {
	b := func(op int8, l ...int) int { return r.put(op, api.Bool, 0, 0, l...) }
	if x, y, n, how, ok := difference(head, args); ok {
		return r.nodeDifference(r.node(x), r.node(y), n, how)
	}
	if x, n, ok := offset(head, args); ok {
		at := r.node(x)
		return r.put(api.OpAdd, api.Int, 0, may(n), at)
	}
	l := r.each(args)
	last := len(l) - 1
	switch head {
	case "not":
		return b(api.OpNot, l...)
	case "ite":
		return r.put(api.OpIte, r.nodes[l[1]].Sort, 0, 0, l...)
	case "<=":
		return b(api.OpLe, l[0], l[1])
	case "<":
		return b(api.OpLt, l[0], l[1])
	case ">=":
		return b(api.OpLe, l[1], l[0])
	case ">":
		return b(api.OpLt, l[1], l[0])
	case "=>":
		o := b(api.OpImp, l[last-1], l[last])
		for i := last - 2; i >= 0; i-- {
			o = b(api.OpImp, l[i], o)
		}
		return o
	case "=":
		var eqs []int
		for i := range last {
			eqs = append(eqs, b(api.OpEq, l[i], l[i+1]))
		}
		return r.chain(api.OpAnd, eqs)
	case "distinct":
		var nots []int
		for i := range l {
			for j := i + 1; j < len(l); j++ {
				nots = append(nots, b(api.OpNot, b(api.OpEq, l[i], l[j])))
			}
		}
		return r.chain(api.OpAnd, nots)
	}
	return r.chain(map[string]int8{"and": api.OpAnd, "or": api.OpOr, "xor": api.OpXor}[head], l)
}

func (r *reading) chain(op int8, l []int) int {
	o := l[0]
	for i := 1; i < len(l); i++ {
		o = r.put(op, api.Bool, 0, 0, o, l[i])
	}
	return o
}

func (r *reading) nodeDifference(x, y int, n *big.Int, how string) int {
	may(n) // the numeral is one, whatever is told with it
	one, less := big.NewInt(1), new(big.Int).Neg(n)
	diff := func(x, y int, n *big.Int) int { return r.put(api.OpDiff, api.Bool, 0, may(n), x, y) }
	switch how {
	case "<=":
		return diff(x, y, n)
	case "<":
		return diff(x, y, new(big.Int).Sub(n, one))
	case ">=":
		return diff(y, x, less)
	case ">":
		return diff(y, x, less.Sub(less, one))
	}
	a := diff(x, y, n)
	return r.put(api.OpAnd, api.Bool, 0, 0, a, diff(y, x, less))
}

// wantSort is what Sort must answer, of what may be.
func wantSort(g api.Sig, vars []api.Param, x api.Sexp) (s int, e api.Errno) {
	r := reading{g: g}
	for _, v := range vars {
		r.vars = append(r.vars, known{name: v.Name, sort: v.Sort})
	}
	e = caught(func() { s = r.sort(x) })
	return s, e
}

// wantTerm is what Term must answer, of what may be.
func wantTerm(g api.Sig, t api.Table, x api.Sexp, most int) (u api.Table, id int, e api.Errno) {
	r := reading{g: g, nodes: slices.Clone(t.Nodes), most: most}
	e = caught(func() { r.sort(x) })
	if e == api.OK {
		e = caught(func() { id = r.node(x) })
	}
	if e != api.OK {
		return api.Table{}, 0, e
	}
	return api.Table{Nodes: r.nodes}, id, api.OK
}

// hold holds Sort and Term of x against the words. It answers Term's error.
func hold(t *testing.T, g api.Sig, u api.Table, x api.Sexp, most int) api.Errno {
	t.Helper()
	text, _ := sexpr.Text(x)
	wantS, wantE := wantSort(g, nil, x)
	if s, e := elab.Sort(g, nil, x); s != wantS || e != wantE {
		t.Fatalf("Sort %s: %v %v, not %v %v", text, s, e, wantS, wantE)
	}
	want, wantID, wantE := wantTerm(g, u, x, most)
	o, id, e := elab.Term(g, u, x, most)
	if e != wantE || id != wantID || !term.Same(o, want) {
		t.Fatalf("Term %s: %v %v %v, not %v %v %v", text, o, id, e, want, wantID, wantE)
	}
	if e == api.OK {
		heldNode(t, g, o, id, wantS, text)
	}
	return e
}

// heldNode holds what follows (P7.4) of the node id, which came of text.
func heldNode(t *testing.T, g api.Sig, u api.Table, id, sort int, text string) {
	t.Helper()
	if u.Nodes[id].Sort != sort || typing.Table(g, u) != api.OK {
		t.Fatal(text, "is not well sorted", u, id)
	}
	s, e := elab.Text(g, u, id)
	if e != api.OK {
		t.Fatal("Text of", text, e)
	}
	if want := nodeText(g, u, id); s != want {
		t.Fatalf("Text of %s: %s, not %s", text, s, want)
	}
	for _, at := range term.Reach(u, []int{id}) {
		if n := u.Nodes[at]; n.Op == api.OpDiff && u.Nodes[n.Args[1]].Op == api.OpNum {
			return
		}
	}
	x, end, e := sexpr.Read(s, 0)
	if e == api.ErrDeep {
		return
	}
	o, again, e2 := elab.Term(g, u, x, 0)
	if e != api.OK || end != len(s) || e2 != api.OK || again != id || !term.Same(o, u) {
		t.Fatal(text, "read again", s, e, e2, again, id)
	}
}

// nodeText is a node's text, as the chapter has it.
func nodeText(g api.Sig, u api.Table, id int) string {
	n := u.Nodes[id]
	var l []string
	for _, at := range n.Args[:n.Len] {
		l = append(l, nodeText(g, u, at))
	}
	number := big.NewInt(int64(n.N)).String()
	size, below := strings.CutPrefix(number, "-")
	if below {
		number = "(- " + size + ")"
	}
	var head string
	switch n.Op {
	case api.OpTrue:
		return "true"
	case api.OpNum:
		return number
	case api.OpAdd:
		return "(" + map[bool]string{true: "-", false: "+"}[below] + " " + l[0] + " " + size + ")"
	case api.OpDiff:
		return "(<= (- " + l[0] + " " + l[1] + ") " + number + ")"
	case api.OpApp:
		head, _ = sexpr.Text(sym(g.Funs[n.Fun].Name))
		if n.Len == 0 {
			return head
		}
	default:
		head = map[int8]string{api.OpNot: "not", api.OpAnd: "and", api.OpOr: "or", api.OpXor: "xor", api.OpImp: "=>", api.OpEq: "=", api.OpIte: "ite", api.OpLe: "<=", api.OpLt: "<"}[n.Op]
	}
	return "(" + head + " " + strings.Join(l, " ") + ")"
}

// P7.1, P7.2, P7.4: each list of each head and up to three of many arguments.
func TestWordsShort(t *testing.T) {
	g := sigma()
	args := reads("x p s z 1 (- 1) (- x y) (- x 1) (- p y) (+ x y) (f) (f p) :k () true let")
	few := reads("x p s 1 (- 2) (- x y) z (f p)")
	var l []api.Sexp
	for _, h := range append(reads("x f h k p m c z let forall _ true false :k 1 (f) ||"), syms(keys(heads)...)...) {
		l = append(l, h, list(h))
		for _, a := range args {
			l = append(l, a, list(h, a))
			for _, b := range args {
				l = append(l, list(h, a, b))
			}
		}
		for _, a := range few {
			for _, b := range few {
				for _, c := range few {
					l = append(l, list(h, a, b, c))
				}
			}
		}
	}
	times := map[api.Errno]int{}
	for _, x := range l {
		times[hold(t, g, term.New(), x, 50)]++
	}
	for _, e := range []api.Errno{api.OK, api.ErrForm, api.ErrName, api.ErrSort, api.ErrLogic} {
		if times[e] < 100 {
			t.Error("too few of", e, times[e])
		}
	}
}

// A draw gives numbers that are alike each time.
type draw uint64

// below is a number from 0 to n - 1.
func (d *draw) below(n int) int {
	*d = *d*6364136223846793005 + 1442695040888963407
	return int(uint64(*d) >> 33 % uint64(n))
}

// of is one of l, in which commas stand between.
func (d *draw) of(l string) string {
	f := strings.Split(l, ",")
	return f[d.below(len(f))]
}

// text is that of a term of that sort, of so many lists within each other at
// most; rarely of what is none.
func (d *draw) text(sort, deep int) string {
	if d.below(60) == 0 {
		sort = d.below(api.Own + 2)
	}
	if d.below(300) == 0 {
		return d.of("(),:k,z,let,(1),(f),(let),(not),(and),(true),(z p),(f x x),(- x y),(+ x x),((x)),(_ x),and,bad,deep,(bad),99999999999999999999,(- 4611686018427387905)")
	}
	if deep <= 0 || d.below(8) == 0 {
		return d.of([]string{"p,q,true,false", "x,y,0,1,7,|a b|,c,u,4611686018427387904", "s", "t"}[sort] + ",v")
	}
	sub := func(sort int) string { return d.text(sort, deep-1) }
	if d.below(6) == 0 {
		v := []string{"v", "w", "x", "p", "true"}[d.below(5)]
		return "(let ((" + v + " " + sub(d.below(4)) + ") (u " + sub(sort) + ")) " + sub(sort) + ")"
	}
	if d.below(8) == 0 {
		return "(ite " + sub(0) + " " + sub(sort) + " " + sub(sort) + ")"
	}
	switch sort {
	case api.Bool:
		return d.truth(sub)
	case api.Int:
		return []string{"(f " + sub(1) + ")", "(+ " + sub(1) + " " + d.numeral() + ")", "(- " + sub(1) + " " + d.numeral() + ")", "(+ " + d.numeral() + " " + sub(1) + ")", d.numeral()}[d.below(5)]
	case api.Own:
		return []string{"(k " + sub(2) + " " + sub(0) + " " + sub(1) + ")", "s", "(n " + sub(2) + ")"}[d.below(3)]
	}
	return "t"
}

func (d *draw) numeral() string {
	if d.below(60) == 0 {
		return overText
	}
	n := d.of("0,1,2,5,9,300,4611686018427387903,4611686018427387904")
	if d.below(2) == 0 {
		return "(- " + n + ")"
	}
	return n
}

func (d *draw) truth(sub func(int) string) string {
	switch d.below(6) {
	case 0:
		return "(not " + sub(0) + ")"
	case 1:
		return "(m " + sub(1) + " " + sub(0) + ")"
	case 2:
		return "(h " + sub(1) + " " + sub(2) + ")"
	case 3:
		s := "(" + d.of("and,or,xor,=>")
		for range 2 + d.below(3) {
			s += " " + sub(0)
		}
		return s + ")"
	case 4:
		s, sort := "("+d.of("=,distinct"), d.below(4)
		for range 2 + d.below(3) {
			s += " " + sub(sort)
		}
		return s + ")"
	}
	l := []string{sub(1), sub(1)}
	if d.below(2) == 0 {
		l = []string{"(- " + l[0] + " " + l[1] + ")", d.numeral()}
		i := d.below(2)
		l[0], l[1] = l[i], l[1-i]
	}
	return "(" + d.of("<=,<,>=,>,=") + " " + l[0] + " " + l[1] + ")"
}

// P7.1, P7.2, P7.4: made expressions, one behind the other put into a table.
func TestWordsLong(t *testing.T) {
	g, d := sigma(), draw(5)
	g.Macros = append(g.Macros, api.Macro{Name: "bad", Body: read("(and p z)")}, api.Macro{Name: "deep", Res: api.Own, Body: read("(ite bad s s)")})
	if e := sig.Check(g); e != api.OK {
		t.Fatal(e)
	}
	times, deepest := map[api.Errno]int{}, 0
	for range 3000 {
		u := term.New()
		for range 6 {
			x := read(d.text(d.below(4), 1+d.below(5)))
			most := len(u.Nodes) + 3 + d.below(60)
			times[hold(t, g, u, x, most)]++
			if o, id, e := elab.Term(g, u, x, most); e == api.OK {
				u = o
				deepest = max(deepest, term.Depth(u, id))
			}
		}
	}
	for e, n := range map[api.Errno]int{api.OK: 3000, api.ErrForm: 50, api.ErrName: 50, api.ErrSort: 200, api.ErrLogic: 20, api.ErrOver: 50, api.ErrMany: 50} {
		if times[e] < n {
			t.Error("too few of", e, times[e])
		}
	}
	if deepest < 10 {
		t.Error("none is deep", deepest)
	}
}
