package elab_test

import (
	"math"
	"slices"
	"strconv"
	"strings"
	"testing"

	"gantry/api"
	"gantry/elab"
	"gantry/sexpr"
	"gantry/sig"
	"gantry/term"
	"gantry/typing"
)

const (
	reserved = "_ ! as let exists forall match par"
	mostText = "4611686018427387904" // Most
	overText = "4611686018427387905"
)

func sym(s string) api.Sexp { return api.Sexp{Text: s} }

func syms(l ...string) (o []api.Sexp) {
	for _, s := range l {
		o = append(o, sym(s))
	}
	return o
}

func list(l ...api.Sexp) api.Sexp { return api.Sexp{Kind: api.SxList, L: l} }

func digits(s string) api.Sexp { return api.Sexp{Kind: api.SxNum, Text: s} }

// reads are the expressions of s.
func reads(s string) []api.Sexp {
	l, _, e := sexpr.All(s)
	if e != api.OK {
		panic(s)
	}
	return l
}

// read is the one expression of s.
func read(s string) api.Sexp {
	l := reads(s)
	if len(l) != 1 {
		panic(s)
	}
	return l[0]
}

// keys are m's, rising.
func keys(m map[string][2]int) (l []string) {
	for k := range m {
		l = append(l, k)
	}
	slices.Sort(l)
	return l
}

func args(l ...int) (a [api.MaxArgs]int) {
	copy(a[:], l)
	return a
}

// sigma has two sorts, functions of no, one, two and three arguments, and
// macros.
func sigma() api.Sig {
	const b, i, s, t = api.Bool, api.Int, api.Own, api.Own + 1
	return api.Sig{
		Sorts: []string{"S", "T"},
		Funs: []api.Fun{
			{Name: "x", Res: i},
			{Name: "y", Res: i},
			{Name: "p", Res: b},
			{Name: "q", Res: b},
			{Name: "s", Res: s},
			{Name: "t", Res: t},
			{Name: "f", Len: 1, Args: args(i), Res: i},
			{Name: "h", Len: 2, Args: args(i, s), Res: b},
			{Name: "k", Len: 3, Args: args(s, b, i), Res: s},
			{Name: "a b", Res: i},
		},
		Macros: []api.Macro{
			{Name: "m", Params: []api.Param{{Name: "a", Sort: i}, {Name: "p", Sort: b}}, Body: read("(and p (<= a x))")},
			{Name: "c", Res: i, Body: read("(+ x 1)")},
			{Name: "n", Params: []api.Param{{Name: "x", Sort: s}}, Res: s, Body: read("(ite (m c q) x (k x p c))")},
		},
	}
}

// with is sigma() with those macros behind.
func with(l ...api.Macro) api.Sig {
	g := sigma()
	g.Macros = append(g.Macros, l...)
	return g
}

func node(op int8, sort int, l ...int) api.Node {
	return api.Node{Op: op, Len: int8(len(l)), Args: args(l...), Sort: sort}
}

func app(f, sort int, l ...int) api.Node {
	n := node(api.OpApp, sort, l...)
	n.Fun = f
	return n
}

func withN(n api.Node, number int) api.Node {
	n.N = number
	return n
}

// table is a table of True, Zero and those nodes.
func table(l ...api.Node) api.Table {
	return api.Table{Nodes: append(term.New().Nodes, l...)}
}

// endless is a list within itself.
func endless() api.Sexp {
	x := list(sym("and"), sym("p"), sym("p"))
	x.L[2] = x
	return x
}

// nest is n lists about p: (not (not .. p)).
func nest(n int) api.Sexp {
	x := sym("p")
	for range n {
		x = list(sym("not"), x)
	}
	return x
}

// wrong are expressions that may not be.
func wrong() []api.Sexp {
	return []api.Sexp{
		endless(), nest(api.MaxDepth + 1), nest(100000),
		{Kind: -1}, {Kind: 4}, {Kind: math.MaxInt8, Text: "p"},
		sym("|"), sym("\x00"), sym(strings.Repeat("a", 101)), {Text: "p", L: syms("p")},
		digits(""), digits("007"), digits("-1"), digits("+1"), digits("1a"), digits(" 1"), digits("٣"), digits(strings.Repeat("9", 101)), {Kind: api.SxNum, Text: "1", L: []api.Sexp{digits("1")}},
		{Kind: api.SxKey}, {Kind: api.SxKey, Text: "a b"},
		{Kind: api.SxList, Text: "x", L: []api.Sexp{sym("-"), digits("1")}},
		list(sym("-"), digits("01")), list(sym("not"), sym("|")), list(sym("-"), digits("5"), sym("|")),
		{Kind: api.SxSym, Text: "-", L: []api.Sexp{sym("-"), digits("5")}},
		{Kind: api.SxNum, L: []api.Sexp{sym("-"), digits("5")}},
	}
}

// wrongSigs may not be, each for a reason of its own.
func wrongSigs() (l []api.Sig) {
	for _, change := range []func(*api.Sig){
		func(g *api.Sig) { g.Sorts[0] = "Int" },
		func(g *api.Sig) { g.Sorts = g.Sorts[:1] },
		func(g *api.Sig) { g.Sorts = append(g.Sorts, "U", "V", "W") },
		func(g *api.Sig) { g.Funs[1].Name = "x" },
		func(g *api.Sig) { g.Funs[1].Name = "and" },
		func(g *api.Sig) { g.Funs[1].Len = 4 },
		func(g *api.Sig) { g.Funs[1].Len = -1 },
		func(g *api.Sig) { g.Funs[0].Args[2] = 1 },
		func(g *api.Sig) { g.Macros[0].Name = "f" },
		func(g *api.Sig) { g.Macros[0].Params[1].Name = "a" },
		func(g *api.Sig) { g.Macros[2].Body = digits("007") },
		func(g *api.Sig) { g.Macros[2].Body = endless() },
	} {
		g := sigma()
		change(&g)
		l = append(l, g)
	}
	return l
}

// P7.1: numerals of each form, at the ends of the numbers, and what is none.
func TestNumeral(t *testing.T) {
	for s, want := range map[string]int{
		"0": 0, "(- 0)": 0, "1": 1, "(- 1)": -1, "7": 7, "(- 7)": -7, "(|-| 3)": -3, " ( - ; so\n 12 ) ": -12,
		mostText: api.Most, "(- " + mostText + ")": -api.Most, "4611686018427387903": api.Most - 1, "(- 4611686018427387903)": 1 - api.Most,
	} {
		if n, ok, e := elab.Numeral(read(s)); n != want || !ok || e != api.OK {
			t.Error(s, n, ok, e)
		}
	}
	for _, s := range []string{overText, "9223372036854775807", "9223372036854775808", "18446744073709551616", "18446744073709551617", strings.Repeat("9", 100)} {
		for _, s := range []string{s, "(- " + s + ")"} {
			if n, ok, e := elab.Numeral(read(s)); n != 0 || !ok || e != api.ErrOver {
				t.Error(s, n, ok, e)
			}
		}
	}
	none := append(reads("x - |1| |(- 1)| -1 +1 :1 () (-) (- x) (- :1) (- 1 2) (- 1 x) (- (- 1)) (- ()) (+ 1) (+ - 1) (1) (1 2) (1 -) (- -) (-1) ((-) 1) ((- 1)) (|| 1) (:- 1)"), wrong()...)
	for i, x := range append(none, api.Sexp{}, list(digits("5"), digits("5"))) {
		if n, ok, e := elab.Numeral(x); n != 0 || ok || e != api.OK {
			t.Error(i, n, ok, e)
		}
	}
}

// A told is an expression, and what Sort says of it.
type told struct {
	x    string
	sort int
	e    api.Errno
}

func heldSorts(t *testing.T, g api.Sig, vars []api.Param, l []told) {
	t.Helper()
	for _, c := range l {
		if s, e := elab.Sort(g, vars, read(c.x)); s != c.sort || e != c.e {
			t.Error(c.x, s, e)
		}
		if s, e := wantSort(g, vars, read(c.x)); s != c.sort || e != c.e {
			t.Error("the second reading", c.x, s, e)
		}
	}
}

// P7.1: what each term is of; each connective at its least number of
// arguments, one fewer, and many.
func TestSort(t *testing.T) {
	const b, i, s, own = api.Bool, api.Int, api.Own, api.Own + 1
	heldSorts(t, sigma(), nil, []told{
		{"true", b, 0}, {"false", b, 0}, {"x", i, 0}, {"p", b, 0}, {"s", s, 0}, {"t", own, 0}, {"|a b|", i, 0}, {"c", i, 0},
		{"0", i, 0}, {"(- 0)", i, 0}, {strings.Repeat("9", 100), i, 0}, {"(- " + strings.Repeat("9", 100) + ")", i, 0}, // numbers are not looked at
		{"(not p)", b, 0}, {"(not)", 0, api.ErrForm}, {"(not p q)", 0, api.ErrForm}, {"(not x)", 0, api.ErrSort}, {"(not s)", 0, api.ErrSort},
		{"(and p q)", b, 0}, {"(and p)", 0, api.ErrForm}, {"(and)", 0, api.ErrForm}, {"(and p q p q p true)", b, 0}, {"(and p q p q p 1)", 0, api.ErrSort}, {"(and x p)", 0, api.ErrSort}, {"(and p x p)", 0, api.ErrSort},
		{"(or p q)", b, 0}, {"(or p)", 0, api.ErrForm}, {"(or p q p)", b, 0}, {"(or p s)", 0, api.ErrSort},
		{"(xor p q)", b, 0}, {"(xor p)", 0, api.ErrForm}, {"(xor p q p)", b, 0}, {"(xor x y)", 0, api.ErrSort},
		{"(=> p q)", b, 0}, {"(=> p)", 0, api.ErrForm}, {"(=> p q p)", b, 0}, {"(=> p q x)", 0, api.ErrSort}, {"(=> x p q)", 0, api.ErrSort},
		{"(= p q)", b, 0}, {"(= x 1)", b, 0}, {"(= s s)", b, 0}, {"(= p)", 0, api.ErrForm}, {"(=)", 0, api.ErrForm}, {"(= x y 1 2 x)", b, 0}, {"(= x p)", 0, api.ErrSort}, {"(= s t)", 0, api.ErrSort}, {"(= x y p)", 0, api.ErrSort}, {"(= p x y)", 0, api.ErrSort},
		{"(distinct p q)", b, 0}, {"(distinct s s)", b, 0}, {"(distinct x)", 0, api.ErrForm}, {"(distinct x y 1)", b, 0}, {"(distinct x y s)", 0, api.ErrSort}, {"(distinct s x s)", 0, api.ErrSort},
		{"(ite p x 1)", i, 0}, {"(ite p p q)", b, 0}, {"(ite p t t)", own, 0}, {"(ite p x)", 0, api.ErrForm}, {"(ite p x x x)", 0, api.ErrForm}, {"(ite x x x)", 0, api.ErrSort}, {"(ite s x x)", 0, api.ErrSort}, {"(ite p x q)", 0, api.ErrSort}, {"(ite p s t)", 0, api.ErrSort},
		{"(<= x 1)", b, 0}, {"(< x y)", b, 0}, {"(>= x y)", b, 0}, {"(> 1 y)", b, 0}, {"(<= x)", 0, api.ErrForm}, {"(< x)", 0, api.ErrForm}, {"(>= x)", 0, api.ErrForm}, {"(>)", 0, api.ErrForm},
		{"(<= x y x)", 0, api.ErrForm}, {"(< x y x)", 0, api.ErrForm}, {"(>= x y x)", 0, api.ErrForm}, {"(> x y x)", 0, api.ErrForm}, {"(<= p x)", 0, api.ErrSort}, {"(< x p)", 0, api.ErrSort}, {"(>= s s)", 0, api.ErrSort}, {"(> x s)", 0, api.ErrSort},
		{"(f x)", i, 0}, {"(f (f 1))", i, 0}, {"(h x s)", b, 0}, {"(k s p x)", s, 0}, {"(f)", 0, api.ErrForm}, {"f", 0, api.ErrForm}, {"(f x x)", 0, api.ErrForm}, {"(h x)", 0, api.ErrForm}, {"(h x s s)", 0, api.ErrForm}, {"(k s p)", 0, api.ErrForm}, {"(k s p x x)", 0, api.ErrForm},
		{"(f p)", 0, api.ErrSort}, {"(h s x)", 0, api.ErrSort}, {"(h x t)", 0, api.ErrSort}, {"(k t p x)", 0, api.ErrSort}, {"(k s p p)", 0, api.ErrSort}, {"(x)", i, 0}, {"(x 1)", 0, api.ErrForm}, {"(|a b|)", i, 0},
		{"(m 3 p)", b, 0}, {"(n s)", s, 0}, {"m", 0, api.ErrForm}, {"(m)", 0, api.ErrForm}, {"(m 3)", 0, api.ErrForm}, {"(m 3 p p)", 0, api.ErrForm}, {"(m p 3)", 0, api.ErrSort}, {"(n t)", 0, api.ErrSort}, {"(n x)", 0, api.ErrSort}, {"(c)", i, 0}, {"(c 1)", 0, api.ErrForm},
		{":k", 0, api.ErrForm}, {"()", 0, api.ErrForm}, {"(1 2)", 0, api.ErrForm}, {"(1)", 0, api.ErrForm}, {"((f) x)", 0, api.ErrForm}, {"((and) p q)", 0, api.ErrForm}, {"(:k x)", 0, api.ErrForm}, {"(() ())", 0, api.ErrForm},
		{"z", 0, api.ErrName}, {"(z)", 0, api.ErrName}, {"(z x)", 0, api.ErrName}, {"||", 0, api.ErrName}, {"(|| x)", 0, api.ErrName}, {"a", 0, api.ErrName}, {"S", 0, api.ErrName}, {"Bool", 0, api.ErrName}, {"(Int x)", 0, api.ErrName}, {"TRUE", 0, api.ErrName},
		{"(true)", 0, api.ErrForm}, {"(false)", 0, api.ErrForm}, {"(true p)", 0, api.ErrForm}, {"(false z)", 0, api.ErrForm},
	})
	for head := range heads { // no names of terms by themselves
		heldSorts(t, sigma(), nil, []told{{head, 0, api.ErrName}, {"(f " + head + ")", 0, api.ErrName}})
	}
	for s := range strings.FieldsSeq(reserved) {
		heldSorts(t, sigma(), nil, []told{{s, 0, api.ErrForm}, {"(" + s + ")", 0, api.ErrForm}, {"(" + s + " z)", 0, api.ErrForm}, {"(f " + s + ")", 0, api.ErrForm}, {"(" + s + " x p)", 0, api.ErrForm}})
	}
	many := list(append(syms("and"), syms(slices.Repeat([]string{"p"}, 20000)...)...)...)
	for head := range heads {
		many.L[0] = sym(head)
		want, wantE := wantSort(sigma(), nil, many)
		if s, e := elab.Sort(sigma(), nil, many); s != want || e != wantE {
			t.Error(head, s, e)
		}
	}
}

// P7.1: + and -, and comparisons of differences; what of these is none of the
// logic.
func TestSortDifferences(t *testing.T) {
	const b, i = api.Bool, api.Int
	heldSorts(t, sigma(), nil, []told{
		{"(+ x 1)", i, 0}, {"(+ 1 x)", i, 0}, {"(+ 1 2)", i, 0}, {"(+ (- 1) x)", i, 0}, {"(+ x (- 1))", i, 0}, {"(+ (+ x 1) 1)", i, 0}, {"(+ x " + overText + ")", i, 0},
		{"(- x 1)", i, 0}, {"(- x (- 1))", i, 0}, {"(- 5 3)", i, 0}, {"(- (- 5) 3)", i, 0}, {"(- 1)", i, 0}, {"(- (- x 1) 1)", i, 0},
		{"(+)", 0, api.ErrForm}, {"(-)", 0, api.ErrForm}, {"(+ x)", 0, api.ErrForm}, {"(+ 1)", 0, api.ErrForm}, {"(+ x 1 2)", 0, api.ErrForm}, {"(- x 1 2)", 0, api.ErrForm}, {"(- 1 2 3)", 0, api.ErrForm},
		{"(+ x y)", 0, api.ErrLogic}, {"(+ x x)", 0, api.ErrLogic}, {"(- x y)", 0, api.ErrLogic}, {"(- 1 x)", 0, api.ErrLogic}, {"(- x)", 0, api.ErrLogic}, {"(- (- 1))", 0, api.ErrLogic}, {"(- (+ x 1))", 0, api.ErrLogic},
		{"(+ p q)", 0, api.ErrLogic}, {"(- p q)", 0, api.ErrLogic}, {"(- s)", 0, api.ErrLogic}, {"(+ p 1)", 0, api.ErrSort}, {"(+ 1 p)", 0, api.ErrSort}, {"(- s 1)", 0, api.ErrSort}, {"(+ x (+ 1 1))", 0, api.ErrLogic}, {"(- x c)", 0, api.ErrLogic},
		{"(- x z)", 0, api.ErrName}, {"(+ z x)", 0, api.ErrName}, {"(- z)", 0, api.ErrName}, {"(- :k)", 0, api.ErrForm}, {"(+ (not x) z)", 0, api.ErrSort}, {"(+ z (not x))", 0, api.ErrName},
		{"(<= (- x y) 3)", b, 0}, {"(< (- x y) (- 3))", b, 0}, {"(>= 3 (- x y))", b, 0}, {"(> (- 3) (- x y))", b, 0}, {"(= (- x y) 1)", b, 0}, {"(= 1 (- x y))", b, 0}, {"(<= (- 5 x) 3)", b, 0}, {"(<= (- (+ x 1) (f y)) " + overText + ")", b, 0},
		{"(<= (- x 2) 3)", b, 0}, {"(= (- x 2) (- y 3))", b, 0}, {"(<= (- x (- 2)) 3)", b, 0}, {"(<= (- x 2) y)", b, 0}, {"(<= (- 2) 3)", b, 0},
		{"(<= (- x y) y)", 0, api.ErrLogic}, {"(<= y (- x y))", 0, api.ErrLogic}, {"(= (- x y) (- x y))", 0, api.ErrLogic}, {"(= (- x y) 1 2)", 0, api.ErrLogic}, {"(= 1 2 (- x y))", 0, api.ErrLogic}, {"(distinct (- x y) 1)", 0, api.ErrLogic},
		{"(<= (- x y) c)", 0, api.ErrLogic}, {"(<= (- x y) (+ 1 2))", 0, api.ErrLogic}, {"(<= (+ x y) 3)", 0, api.ErrLogic}, {"(<= (- x) 3)", 0, api.ErrLogic}, {"(f (- x y))", 0, api.ErrLogic}, {"(and (- x y) 3)", 0, api.ErrLogic},
		{"(<= (- x y 1) 3)", 0, api.ErrForm}, {"(<= (-) 3)", 0, api.ErrForm}, {"(<= (- x y))", 0, api.ErrForm}, {"(<= (- x y) 3 3)", 0, api.ErrForm},
		{"(<= (- p y) 3)", 0, api.ErrSort}, {"(<= (- x p) 3)", 0, api.ErrSort}, {"(= (- p q) 3)", 0, api.ErrSort}, {"(= 3 (- s s))", 0, api.ErrSort}, {"(> 3 (- x s))", 0, api.ErrSort},
		{"(<= (- p z) 3)", 0, api.ErrName}, {"(<= (- z (f)) 3)", 0, api.ErrName}, {"(<= (- (f) z) 3)", 0, api.ErrForm}, {"(<= (- (f p) z) 3)", 0, api.ErrSort}, {"(<= (- (- x y) z) 3)", 0, api.ErrLogic}, {"(<= (- z (- x y)) 3)", 0, api.ErrName},
		{"(let ((v 3)) (<= (- x y) v))", 0, api.ErrLogic}, {"(let ((v 3)) (<= (- x v) 3))", b, 0}, {"(let ((v 3)) (+ x v))", 0, api.ErrLogic}, {"(let ((v (- 3))) (- x v))", 0, api.ErrLogic},
	})
}

// P7.1: which error is the first.
func TestSortFirst(t *testing.T) {
	heldSorts(t, sigma(), nil, []told{
		{"(and z (f))", 0, api.ErrName}, {"(and (f) z)", 0, api.ErrForm}, {"(and x z)", 0, api.ErrName}, {"(and x (f))", 0, api.ErrForm}, {"(and (f p) z)", 0, api.ErrSort}, {"(and (- x y) z)", 0, api.ErrLogic}, {"(and x (- x y))", 0, api.ErrLogic},
		{"(not z x)", 0, api.ErrForm}, {"(f z z)", 0, api.ErrForm}, {"(m z)", 0, api.ErrForm}, {"(ite z)", 0, api.ErrForm}, {"(<= z)", 0, api.ErrForm}, {"(+ z)", 0, api.ErrForm}, {"(z (f))", 0, api.ErrName}, {"(z :k)", 0, api.ErrName}, {"(_ z)", 0, api.ErrForm}, {"((z) z)", 0, api.ErrForm},
		{"(not (f z))", 0, api.ErrName}, {"(f (not x))", 0, api.ErrSort}, {"(f (not z))", 0, api.ErrName}, {"(f (and p (z)))", 0, api.ErrName}, {"(k p (not x) z)", 0, api.ErrSort}, {"(k p z (not x))", 0, api.ErrName}, {"(k p q p)", 0, api.ErrSort},
		{"(m z (f))", 0, api.ErrName}, {"(m (f) z)", 0, api.ErrForm}, {"(= (f p) (f))", 0, api.ErrSort}, {"(= x p z)", 0, api.ErrName}, {"(distinct x p :k)", 0, api.ErrForm},
		{"(let ((a z)) (f))", 0, api.ErrName}, {"(let ((a (f)) (b z)) z)", 0, api.ErrForm}, {"(let ((a z) (a (f))) x)", 0, api.ErrForm}, {"(let ((a z)))", 0, api.ErrForm}, {"(let ((a (not x)) (b z)) (f))", 0, api.ErrSort}, {"(let ((a z) (b (not x))) (f))", 0, api.ErrName},
		{"(let ((a (not x))) z)", 0, api.ErrSort}, {"(let ((a 1)) (not a))", 0, api.ErrSort}, {"(and (let ((a 1)) (f)) z)", 0, api.ErrForm},
	})
}

// P7.1: lets of one and of several names, of none, and those that are none.
func TestSortLet(t *testing.T) {
	const b, i, s = api.Bool, api.Int, api.Own
	heldSorts(t, sigma(), nil, []told{
		{"(let ((a 1)) a)", i, 0}, {"(let ((a 1)) p)", b, 0}, {"(let ((a 1) (b p) (d s)) (k d b a))", s, 0}, {"(let ((|u v| p)) |u v|)", b, 0}, {"(let ((|| p)) ||)", b, 0}, {"(|let| ((a 1)) a)", i, 0},
		{"(let ((x p) (v x)) v)", i, 0}, {"(let ((x p) (v x)) x)", b, 0}, {"(let ((v x) (x p)) v)", i, 0}, {"(let ((a 1) (v a)) v)", 0, api.ErrName}, {"(let ((a a)) a)", 0, api.ErrName}, {"(let ((x x)) x)", i, 0},
		{"(let ((a p)) (let ((a 1) (d a)) d))", b, 0}, {"(let ((a p)) (let ((a 1)) a))", i, 0}, {"(let ((a p)) (ite a (let ((a 1)) a) 2))", i, 0}, {"(let ((a p)) (and (let ((a s)) (= a s)) a))", b, 0}, {"(and (let ((a p)) a) a)", 0, api.ErrName}, {"(= (let ((x p)) x) p x)", 0, api.ErrSort},
		{"(let ((a (let ((d p)) d))) a)", b, 0}, {"(let ((a (let ((d p)) d))) d)", 0, api.ErrName}, {"(let ((a (let ((a p)) a)) (d a)) d)", 0, api.ErrName},
		{"let", 0, api.ErrForm}, {"(let)", 0, api.ErrForm}, {"(let x)", 0, api.ErrForm}, {"(let () x)", 0, api.ErrForm}, {"(let x x)", 0, api.ErrForm}, {"(let 1 x)", 0, api.ErrForm}, {"(let :k x)", 0, api.ErrForm}, {"(let ((a 1)))", 0, api.ErrForm}, {"(let ((a 1)) a a)", 0, api.ErrForm},
		{"(let (a 1) a)", 0, api.ErrForm}, {"(let (a) x)", 0, api.ErrForm}, {"(let (()) x)", 0, api.ErrForm}, {"(let ((a)) x)", 0, api.ErrForm}, {"(let ((a 1 2)) x)", 0, api.ErrForm}, {"(let ((1 1)) x)", 0, api.ErrForm}, {"(let ((:k 1)) x)", 0, api.ErrForm}, {"(let (((a) 1)) x)", 0, api.ErrForm}, {"(let ((a 1) a) x)", 0, api.ErrForm}, {"(let ((a 1) ()) x)", 0, api.ErrForm},
		{"(let ((a 1) (a 2)) a)", 0, api.ErrForm}, {"(let ((a 1) (d 1) (a 2)) d)", 0, api.ErrForm}, {"(let ((a 1) (d 1) (d 2)) a)", 0, api.ErrForm}, {"(let ((|| 1) (|| 1)) x)", 0, api.ErrForm},
	})
	for name := range strings.FieldsSeq(reserved) {
		heldSorts(t, sigma(), nil, []told{{"(let ((" + name + " 1)) x)", 0, api.ErrForm}, {"(let ((a 1) (" + name + " z)) x)", 0, api.ErrForm}})
	}
	// a name that may not be makes all of it one
	for _, name := range []string{"|", `\`, "\x00", strings.Repeat("a", 101)} {
		if s, e := elab.Sort(sigma(), nil, list(sym("let"), list(list(sym(name), sym("p"))), sym("p"))); s != 0 || e != api.ErrArg {
			t.Error(name, s, e)
		}
	}
	long := strings.Repeat("a", 100)
	heldSorts(t, sigma(), nil, []told{{"(let ((" + long + " s)) " + long + ")", s, 0}})
}

// P7.1: which of those that have a name counts.
func TestSortNames(t *testing.T) {
	const b, i, s = api.Bool, api.Int, api.Own
	heldSorts(t, sigma(), nil, []told{
		{"(let ((true 1)) true)", i, 0}, {"(let ((false s)) false)", s, 0}, {"(let ((true 1)) (and true p))", 0, api.ErrSort}, {"(let ((x p)) x)", b, 0}, {"(let ((c s)) c)", s, 0}, {"(let ((f 1)) f)", i, 0}, {"(let ((m s)) m)", s, 0},
		{"(let ((f 1)) (f f))", 0, api.ErrForm}, {"(let ((m 1)) (m 1 p))", 0, api.ErrForm}, {"(let ((x 1)) (x))", 0, api.ErrForm}, {"(let ((c 1)) (c))", 0, api.ErrForm}, {"(let ((z 1)) (z 1))", 0, api.ErrForm}, {"(let ((true p)) (true))", 0, api.ErrForm},
		{"(let ((and p)) (and and and))", b, 0}, {"(let ((and p)) and)", b, 0}, {"(let ((- x)) (- 1))", i, 0}, {"(let ((- x)) (- - 1))", i, 0}, {"(let ((ite p)) (ite ite 1 2))", i, 0}, {"(let ((Int p)) Int)", b, 0},
	})
	vars := []api.Param{{Name: "v", Sort: i}, {Name: "true", Sort: s}, {Name: "x", Sort: b}, {Name: "v", Sort: b}, {Name: "f", Sort: i}, {Name: "c", Sort: s}, {Name: "", Sort: i}}
	heldSorts(t, sigma(), vars, []told{
		{"v", b, 0}, {"true", s, 0}, {"false", b, 0}, {"x", b, 0}, {"y", i, 0}, {"f", i, 0}, {"(f 1)", 0, api.ErrForm}, {"c", s, 0}, {"(c)", 0, api.ErrForm}, {"||", i, 0}, {"w", 0, api.ErrName},
		{"(and v x)", b, 0}, {"(let ((v 1)) v)", i, 0}, {"(let ((v 1)) (let ((v s)) v))", s, 0}, {"(and (= 1 (let ((v 1)) v)) v)", b, 0}, {"(let ((d v)) d)", b, 0}, {"(m y v)", b, 0}, {"(n true)", s, 0},
	})
	heldSorts(t, api.Sig{}, nil, []told{{"x", 0, api.ErrName}, {"true", b, 0}, {"(let ((x 1)) x)", i, 0}})
	heldSorts(t, api.Sig{}, []api.Param{}, []told{{"x", 0, api.ErrName}})
}

// P7.1: variables such as no let makes: of sorts that are none, of any number;
// of reserved names; of names that may not be.
func TestSortStrangeVars(t *testing.T) {
	vars := []api.Param{{Name: "v", Sort: -1}, {Name: "w", Sort: 99}, {Name: "let", Sort: 1}, {Name: "|", Sort: 0}, {Name: "u", Sort: math.MinInt}, {Name: "o", Sort: math.MaxInt}}
	heldSorts(t, sigma(), vars, []told{
		{"v", -1, 0}, {"w", 99, 0}, {"o", math.MaxInt, 0}, {"(= w w)", 0, 0}, {"(= o o o)", 0, 0}, {"(ite p w w)", 99, 0}, {"(= w o)", 0, api.ErrSort}, {"(= v v)", 0, api.ErrSort}, {"(ite p v v)", 0, api.ErrSort}, {"(distinct u u)", 0, api.ErrSort},
		{"(f v)", 0, api.ErrSort}, {"(f w)", 0, api.ErrSort}, {"(not v)", 0, api.ErrSort}, {"(+ u 1)", 0, api.ErrSort}, {"(<= (- v v) 1)", 0, api.ErrSort}, {"(let ((a v)) a)", -1, 0}, {"let", 1, 0}, {"(let ((a let)) a)", 1, 0}, {"(let 1)", 0, api.ErrForm},
	})
}

// P7.1: what is handed in may not be.
func TestSortWrong(t *testing.T) {
	for i, g := range wrongSigs() {
		for _, x := range append(reads("p 1 (f) z ()"), wrong()...) {
			if s, e := elab.Sort(g, nil, x); s != 0 || e != api.ErrArg {
				t.Error(i, x.Text, s, e)
			}
		}
		if e := elab.Fits(g, api.Macro{Name: "o", Body: sym("p")}); e != api.ErrArg {
			t.Error("Fits", i, e)
		}
		if e := elab.Fits(g, api.Macro{Body: digits("007")}); e != api.ErrArg {
			t.Error("Fits", i, e)
		}
	}
	for i, x := range wrong() {
		for _, x := range []api.Sexp{x, list(sym("not"), x), list(sym("z"), x), list(list(), x), list(sym("let"), list(list(x, sym("p"))), sym("p"))} {
			if s, e := elab.Sort(sigma(), []api.Param{{Name: "|", Sort: 1}}, x); s != 0 || e != api.ErrArg {
				t.Error(i, s, e)
			}
			if e := elab.Fits(sigma(), api.Macro{Body: x}); e != api.ErrArg {
				t.Error("Fits", i, e)
			}
			if u, id, e := elab.Term(sigma(), term.New(), x, 100); len(u.Nodes) != 0 || id != 0 || e != api.ErrArg {
				t.Error("Term", i, u, id, e)
			}
		}
	}
	if s, e := elab.Sort(sigma(), nil, nest(api.MaxDepth)); s != api.Bool || e != api.OK {
		t.Error(s, e)
	}
	if s, e := elab.Sort(sigma(), nil, api.Sexp{}); s != 0 || e != api.ErrName {
		t.Error(s, e)
	}
}

// P7.1: macros that fit and those that do not.
func TestFits(t *testing.T) {
	a := []api.Param{{Name: "a", Sort: api.Int}, {Name: "x", Sort: api.Own}}
	for i, c := range []struct {
		m api.Macro
		e api.Errno
	}{
		{api.Macro{Name: "o", Res: api.Int, Body: sym("a"), Params: a}, api.OK},
		{api.Macro{Name: "o", Res: api.Own, Body: sym("x"), Params: a}, api.OK},
		{api.Macro{Name: "o", Res: api.Int, Body: sym("x")}, api.OK},
		{api.Macro{Name: "o", Res: api.Int, Body: sym("x"), Params: a}, api.ErrSort},
		{api.Macro{Name: "o", Res: api.Bool, Body: read("(and p (m a q) (= x (n x)))"), Params: a}, api.OK},
		{api.Macro{Name: "o", Res: api.Int, Body: sym("b"), Params: a}, api.ErrName},
		{api.Macro{Name: "o", Res: api.Int, Body: sym("o"), Params: a}, api.ErrName},
		{api.Macro{Name: "o", Res: api.Int, Body: read("(f)")}, api.ErrForm},
		{api.Macro{Name: "o", Res: api.Int, Body: read("(+ a a)"), Params: a}, api.ErrLogic},
		{api.Macro{Name: "o", Res: api.Own, Body: read("(+ a a)"), Params: a}, api.ErrLogic},
		{api.Macro{Name: "o", Res: api.Int, Body: read("(+ x 1)"), Params: a}, api.ErrSort},
		{api.Macro{Name: "o", Res: api.Int, Body: digits(strings.Repeat("9", 100))}, api.OK},
		{api.Macro{Name: "o", Body: digits("1")}, api.ErrSort},
		{api.Macro{Name: "o", Res: api.Own + 1, Body: sym("s")}, api.ErrSort},
		{api.Macro{Name: "o", Res: api.Own + 1, Body: sym("t")}, api.OK},
		{api.Macro{}, api.ErrName},
		// whatever else of it may not be
		{api.Macro{Name: "and", Res: api.Int, Body: digits("1")}, api.OK},
		{api.Macro{Name: "m", Res: api.Bool, Body: read("(m 1 p)")}, api.OK},
		{api.Macro{Res: -1, Body: sym("v"), Params: []api.Param{{Name: "v", Sort: -1}}}, api.OK},
		{api.Macro{Res: -1, Body: sym("p")}, api.ErrSort},
		{api.Macro{Res: math.MaxInt, Body: sym("p")}, api.ErrSort},
		{api.Macro{Res: api.Bool, Body: sym("v"), Params: []api.Param{{Name: "v", Sort: api.Int}, {Name: "v", Sort: api.Bool}}}, api.OK},
		{api.Macro{Res: api.Int, Body: sym("v"), Params: []api.Param{{Name: "v", Sort: api.Int}, {Name: "v", Sort: api.Bool}}}, api.ErrSort},
		{api.Macro{Res: api.Int, Body: sym("v"), Params: slices.Repeat([]api.Param{{Name: "v", Sort: api.Int}}, 50)}, api.OK},
		{api.Macro{Res: api.Int, Body: nest(api.MaxDepth)}, api.ErrSort},
		{api.Macro{Res: api.Bool, Body: nest(api.MaxDepth)}, api.OK},
	} {
		if e := elab.Fits(sigma(), c.m); e != c.e {
			t.Error(i, e)
		}
	}
}

// A made is an expression, and the nodes that are put for it behind True, Zero,
// x, y and p, which are there; the last is its own, unless there is none, or at
// says else.
type made struct {
	x     string
	nodes []api.Node
	at    int
}

const (
	nx = 2 + iota
	ny
	np
	next // the place of the first that is put
)

// someNodes is a table of x, y and p.
func someNodes() api.Table {
	return table(app(0, api.Int), app(1, api.Int), app(2, api.Bool))
}

func heldMade(t *testing.T, l []made) {
	t.Helper()
	g := sigma()
	for _, c := range l {
		want := append(someNodes().Nodes, c.nodes...)
		at := c.at
		if len(c.nodes) > 0 && at == 0 {
			at = len(want) - 1
		}
		for _, most := range []int{len(want), len(want) + 1, 1 << 40, math.MaxInt} { // as many as are needed will do
			o, id, e := elab.Term(g, someNodes(), read(c.x), most)
			if e != api.OK || id != at || !slices.Equal(o.Nodes, want) {
				t.Fatal(c.x, most, o, id, e)
			}
			if again, id, e := elab.Term(g, o, read(c.x), 0); e != api.OK || id != at || !term.Same(o, again) {
				t.Error("again", c.x, again, id, e)
			}
		}
		if len(c.nodes) == 0 {
			continue
		}
		for _, most := range []int{len(want) - 1, next, 0, -1, math.MinInt} {
			if o, id, e := elab.Term(g, someNodes(), read(c.x), most); len(o.Nodes) != 0 || id != 0 || e != api.ErrMany {
				t.Error(c.x, most, o, id, e)
			}
		}
	}
}

// P7.2: what is put, in which order, for each connective.
func TestTerm(t *testing.T) {
	const b, i = api.Bool, api.Int
	n := func(op int8, l ...int) api.Node { return node(op, b, l...) }
	num := func(n int) api.Node { return withN(node(api.OpNum, i), n) }
	q, s := app(3, b), app(4, api.Own)
	heldMade(t, []made{
		{"true", nil, api.True}, {"0", nil, api.Zero}, {"(- 0)", nil, api.Zero}, {"x", nil, nx}, {"(x)", nil, nx}, {"p", nil, np}, {"(let ((a p)) a)", nil, np}, {"(let ((p x)) p)", nil, nx},
		{"false", []api.Node{n(api.OpNot, 0)}, 0}, {"(not true)", []api.Node{n(api.OpNot, 0)}, 0}, {"7", []api.Node{num(7)}, 0}, {"(- 7)", []api.Node{num(-7)}, 0}, {mostText, []api.Node{num(api.Most)}, 0}, {"(- " + mostText + ")", []api.Node{num(-api.Most)}, 0},
		{"(not p)", []api.Node{n(api.OpNot, np)}, 0}, {"(not (not p))", []api.Node{n(api.OpNot, np), n(api.OpNot, next)}, 0},
		{"(and p q)", []api.Node{q, n(api.OpAnd, np, next)}, 0}, {"(and q p)", []api.Node{q, n(api.OpAnd, next, np)}, 0}, {"(and p p)", []api.Node{n(api.OpAnd, np, np)}, 0},
		{"(and p true q p)", []api.Node{q, n(api.OpAnd, np, 0), n(api.OpAnd, 6, next), n(api.OpAnd, 7, np)}, 0},
		{"(or p true q p)", []api.Node{q, n(api.OpOr, np, 0), n(api.OpOr, 6, next), n(api.OpOr, 7, np)}, 0}, {"(or p true)", []api.Node{n(api.OpOr, np, 0)}, 0},
		{"(xor p true q p)", []api.Node{q, n(api.OpXor, np, 0), n(api.OpXor, 6, next), n(api.OpXor, 7, np)}, 0}, {"(xor p true)", []api.Node{n(api.OpXor, np, 0)}, 0},
		{"(=> p true q p)", []api.Node{q, n(api.OpImp, next, np), n(api.OpImp, 0, 6), n(api.OpImp, np, 7)}, 0}, {"(=> p true)", []api.Node{n(api.OpImp, np, 0)}, 0},
		{"(= x y)", []api.Node{n(api.OpEq, nx, ny)}, 0}, {"(= y x)", []api.Node{n(api.OpEq, ny, nx)}, 0}, {"(= p true)", []api.Node{n(api.OpEq, np, 0)}, 0}, {"(= s s)", []api.Node{s, n(api.OpEq, next, next)}, 0},
		{"(= x y 0)", []api.Node{n(api.OpEq, nx, ny), n(api.OpEq, ny, 1), n(api.OpAnd, 5, 6)}, 0}, {"(= x y 0 x)", []api.Node{n(api.OpEq, nx, ny), n(api.OpEq, ny, 1), n(api.OpEq, 1, nx), n(api.OpAnd, 5, 6), n(api.OpAnd, 8, 7)}, 0}, {"(= x x x)", []api.Node{n(api.OpEq, nx, nx), n(api.OpAnd, 5, 5)}, 0},
		{"(distinct x y)", []api.Node{n(api.OpEq, nx, ny), n(api.OpNot, 5)}, 0},
		{"(distinct x y 0)", []api.Node{n(api.OpEq, nx, ny), n(api.OpNot, 5), n(api.OpEq, nx, 1), n(api.OpNot, 7), n(api.OpEq, ny, 1), n(api.OpNot, 9), n(api.OpAnd, 6, 8), n(api.OpAnd, 11, 10)}, 0},
		{"(distinct x x x)", []api.Node{n(api.OpEq, nx, nx), n(api.OpNot, 5), n(api.OpAnd, 6, 6), n(api.OpAnd, 7, 6)}, 0},
		{"(ite p x y)", []api.Node{node(api.OpIte, i, np, nx, ny)}, 0}, {"(ite p p true)", []api.Node{n(api.OpIte, np, np, 0)}, 0}, {"(ite p s s)", []api.Node{s, node(api.OpIte, api.Own, np, next, next)}, 0},
		{"(<= x y)", []api.Node{n(api.OpLe, nx, ny)}, 0}, {"(< x y)", []api.Node{n(api.OpLt, nx, ny)}, 0}, {"(>= x y)", []api.Node{n(api.OpLe, ny, nx)}, 0}, {"(> x y)", []api.Node{n(api.OpLt, ny, nx)}, 0},
		{"(>= (f x) 7)", []api.Node{app(6, i, nx), num(7), n(api.OpLe, 6, 5)}, 0}, {"(> (f x) 7)", []api.Node{app(6, i, nx), num(7), n(api.OpLt, 6, 5)}, 0},
		{"(f x)", []api.Node{app(6, i, nx)}, 0}, {"(f (f x))", []api.Node{app(6, i, nx), app(6, i, 5)}, 0}, {"(h 7 s)", []api.Node{num(7), s, app(7, b, 5, 6)}, 0}, {"(k s true y)", []api.Node{s, app(8, api.Own, 5, 0, ny)}, 0}, {"|a b|", []api.Node{app(9, i)}, 0}, {"(|a b|)", []api.Node{app(9, i)}, 0},
		{"(let ((a 7) (b (f x))) (<= b a))", []api.Node{num(7), app(6, i, nx), n(api.OpLe, 6, 5)}, 0}, {"(let ((a 7)) p)", []api.Node{num(7)}, np},
		{"(let ((x 7) (v x)) (= v x))", []api.Node{num(7), n(api.OpEq, nx, 5)}, 0}, {"(let ((x p)) (let ((x y) (v x)) (ite v x 0)))", []api.Node{node(api.OpIte, i, np, ny, 1)}, 0},
		{"(let ((a (let ((a x)) (f a)))) (f a))", []api.Node{app(6, i, nx), app(6, i, 5)}, 0}, {"(= (let ((x y)) x) x)", []api.Node{n(api.OpEq, ny, nx)}, 0},
	}[:])
}

// P7.2: offsets and differences: the numeral on either side, each comparison.
func TestTermDifferences(t *testing.T) {
	const b, i = api.Bool, api.Int
	add := func(n int, l ...int) []api.Node { return []api.Node{withN(node(api.OpAdd, i, l...), n)} }
	diff := func(x, y, n int) []api.Node { return []api.Node{withN(node(api.OpDiff, b, x, y), n)} }
	both := func(n int) []api.Node {
		return append(diff(nx, ny, n), diff(ny, nx, -n)[0], node(api.OpAnd, b, 5, 6))
	}
	seven := withN(node(api.OpNum, i), 7)
	heldMade(t, []made{
		{"(+ x 2)", add(2, nx), 0}, {"(+ 2 x)", add(2, nx), 0}, {"(- x 2)", add(-2, nx), 0}, {"(+ x (- 2))", add(-2, nx), 0}, {"(- x (- 2))", add(2, nx), 0}, {"(+ (- 2) x)", add(-2, nx), 0}, {"(+ x 0)", add(0, nx), 0}, {"(- x 0)", add(0, nx), 0}, {"(+ 0 x)", add(0, nx), 0},
		{"(+ 0 2)", add(2, 1), 0}, {"(+ 7 2)", append([]api.Node{seven}, add(2, 5)...), 0}, {"(- 7 2)", append([]api.Node{seven}, add(-2, 5)...), 0}, {"(+ (+ x 1) 1)", append(add(1, nx), add(1, 5)...), 0},
		{"(+ x " + mostText + ")", add(api.Most, nx), 0}, {"(- x " + mostText + ")", add(-api.Most, nx), 0}, {"(- x (- " + mostText + "))", add(api.Most, nx), 0}, {"(+ (- " + mostText + ") x)", add(-api.Most, nx), 0},
		{"(<= (- x y) 3)", diff(nx, ny, 3), 0}, {"(< (- x y) 3)", diff(nx, ny, 2), 0}, {"(>= (- x y) 3)", diff(ny, nx, -3), 0}, {"(> (- x y) 3)", diff(ny, nx, -4), 0}, {"(= (- x y) 3)", both(3), 0},
		{"(>= 3 (- x y))", diff(nx, ny, 3), 0}, {"(> 3 (- x y))", diff(nx, ny, 2), 0}, {"(<= 3 (- x y))", diff(ny, nx, -3), 0}, {"(< 3 (- x y))", diff(ny, nx, -4), 0}, {"(= 3 (- x y))", both(3), 0},
		{"(<= (- x y) (- 3))", diff(nx, ny, -3), 0}, {"(< (- x y) (- 3))", diff(nx, ny, -4), 0}, {"(>= (- x y) (- 3))", diff(ny, nx, 3), 0}, {"(> (- x y) (- 3))", diff(ny, nx, 2), 0}, {"(= (- x y) (- 3))", both(-3), 0}, {"(= (- 3) (- x y))", both(-3), 0},
		{"(<= (- x y) 0)", diff(nx, ny, 0), 0}, {"(< (- x y) 0)", diff(nx, ny, -1), 0}, {"(> (- x y) 0)", diff(ny, nx, -1), 0}, {"(>= (- x x) 0)", diff(nx, nx, 0), 0}, {"(= (- x x) 0)", append(diff(nx, nx, 0), node(api.OpAnd, b, 5, 5)), 0},
		{"(<= (- x y) " + mostText + ")", diff(nx, ny, api.Most), 0}, {"(<= (- x y) (- " + mostText + "))", diff(nx, ny, -api.Most), 0}, {"(>= (- x y) " + mostText + ")", diff(ny, nx, -api.Most), 0}, {"(>= (- x y) (- " + mostText + "))", diff(ny, nx, api.Most), 0},
		{"(< (- x y) " + mostText + ")", diff(nx, ny, api.Most-1), 0}, {"(< (- x y) (- 4611686018427387903))", diff(nx, ny, -api.Most), 0}, {"(> (- x y) (- " + mostText + "))", diff(ny, nx, api.Most-1), 0}, {"(> (- x y) 4611686018427387903)", diff(ny, nx, -api.Most), 0},
		{"(= (- x y) " + mostText + ")", both(api.Most), 0}, {"(= (- " + mostText + ") (- x y))", both(-api.Most), 0},
		{"(<= (- x 7) 0)", append(add(-7, nx), node(api.OpLe, b, 5, 1)), 0}, {"(= (- x 7) 0)", append(add(-7, nx), node(api.OpEq, b, 5, 1)), 0}, {"(<= (- 7 x) 0)", append([]api.Node{seven}, diff(5, nx, 0)...), 0}, {"(let ((a 7)) (<= (- x a) 0))", append([]api.Node{seven}, diff(nx, 5, 0)...), 0},
		{"(< (- x (f x)) 1)", append([]api.Node{app(6, i, nx)}, diff(nx, 5, 0)...), 0},
	})
}

// P7.2: a difference is held against a number as integers are.
func TestTermDifferencesHold(t *testing.T) {
	holds := map[string]func(a, b int) bool{
		"<=": func(a, b int) bool { return a <= b }, "<": func(a, b int) bool { return a < b }, ">=": func(a, b int) bool { return a >= b }, ">": func(a, b int) bool { return a > b }, "=": func(a, b int) bool { return a == b },
	}
	for how, is := range holds {
		for n := -4; n <= 4; n++ {
			number := strconv.Itoa(n)
			if n < 0 {
				number = "(- " + strconv.Itoa(-n) + ")"
			}
			right, idR, _ := elab.Term(sigma(), someNodes(), read("("+how+" (- x y) "+number+")"), 50)
			left, idL, _ := elab.Term(sigma(), someNodes(), read("("+how+" "+number+" (- x y))"), 50)
			for d := -9; d <= 9; d++ {
				if got := holdsOf(right, idR, d); got != is(d, n) {
					t.Error(how, d, n, got)
				}
				if got := holdsOf(left, idL, d); got != is(n, d) {
					t.Error(how, n, d, got)
				}
			}
		}
	}
}

// holdsOf tells whether the node, of OpDiff and OpAnd, holds where x - y is d.
func holdsOf(u api.Table, id, d int) bool {
	n := u.Nodes[id]
	switch {
	case n.Op == api.OpAnd:
		return holdsOf(u, n.Args[0], d) && holdsOf(u, n.Args[1], d)
	case n.Op == api.OpDiff && n.Args == args(nx, ny):
		return d <= n.N
	case n.Op == api.OpDiff && n.Args == args(ny, nx):
		return -d <= n.N
	}
	panic("another node")
}

// P7.2: numbers that may not be, and which error is the first.
func TestTermErrors(t *testing.T) {
	g := with(api.Macro{Name: "big", Res: api.Int, Body: digits(overText)}, api.Macro{Name: "bad", Res: api.Int, Body: sym("z")})
	for _, c := range []struct {
		x    string
		most int
		e    api.Errno
	}{
		{overText, 50, api.ErrOver}, {"(- " + overText + ")", 50, api.ErrOver}, {strings.Repeat("9", 100), 50, api.ErrOver}, {"(f " + overText + ")", 50, api.ErrOver}, {"(let ((a " + overText + ")) p)", 50, api.ErrOver}, {"(m " + overText + " p)", 50, api.ErrOver},
		{"(+ x " + overText + ")", 50, api.ErrOver}, {"(- x " + overText + ")", 50, api.ErrOver}, {"(+ (- " + overText + ") x)", 50, api.ErrOver}, {"(- x (- " + overText + "))", 50, api.ErrOver},
		{"(<= (- x y) " + overText + ")", 50, api.ErrOver}, {"(< (- x y) " + overText + ")", 50, api.ErrOver}, {"(>= (- x y) (- " + overText + "))", 50, api.ErrOver}, {"(= " + overText + " (- x y))", 50, api.ErrOver},
		{"(< (- x y) (- " + mostText + "))", 50, api.ErrOver}, {"(> (- x y) " + mostText + ")", 50, api.ErrOver}, {"(> (- " + mostText + ") (- x y))", 50, api.ErrOver}, {"(< " + mostText + " (- x y))", 50, api.ErrOver},
		// Sort's come first, wherever they are
		{"(and (= x " + overText + ") z)", 0, api.ErrName}, {"(and (= x " + overText + ") (f))", 50, api.ErrForm}, {"(f (f (+ x y)))", 0, api.ErrLogic}, {"(ite (not p) x p)", 0, api.ErrSort},
		// then what is put, in order
		{"(and (= x " + overText + ") (not p))", 5, api.ErrOver}, {"(and (not p) (= x " + overText + "))", 5, api.ErrMany}, {"(and p p (= x " + overText + "))", 5, api.ErrOver}, {"(not p)", 5, api.ErrMany}, {"(= x " + overText + " (f x))", 5, api.ErrOver},
		{"(= big (f x))", 5, api.ErrOver}, {"(= (f x) big)", 5, api.ErrMany}, {"(= bad big)", 50, api.ErrName}, {"(= big bad)", 50, api.ErrOver}, {"(= bad (f x))", 5, api.ErrName}, {"(= (f x) bad)", 5, api.ErrMany}, {"(f bad)", 5, api.ErrName}, {"(< (f x) (f bad))", 5, api.ErrMany},
	} {
		if o, id, e := elab.Term(g, someNodes(), read(c.x), c.most); len(o.Nodes) != 0 || id != 0 || e != c.e {
			t.Error(c.x, c.most, o, id, e)
		}
	}
}

// P7.2: a table or a signature that does not do.
func TestTermWrong(t *testing.T) {
	var odd []api.Table
	for _, change := range []func(u *api.Table){
		func(u *api.Table) { u.Nodes = nil },
		func(u *api.Table) { u.Nodes = u.Nodes[:1] },
		func(u *api.Table) { u.Nodes = u.Nodes[1:] },
		func(u *api.Table) { u.Nodes[nx].Sort = api.Bool },
		func(u *api.Table) { u.Nodes[nx].Fun = 10 },
		func(u *api.Table) { u.Nodes[nx].Fun = 6 },
		func(u *api.Table) { u.Nodes[ny] = u.Nodes[nx] },
		func(u *api.Table) { u.Nodes = append(u.Nodes, node(api.OpNot, api.Int, np)) },
		func(u *api.Table) { u.Nodes = append(u.Nodes, node(api.OpNot, api.Bool, nx)) },
		func(u *api.Table) { u.Nodes = append(u.Nodes, node(api.OpNot, api.Bool, next)) },
		func(u *api.Table) { u.Nodes = append(u.Nodes, node(14, api.Bool)) },
	} {
		u := someNodes()
		change(&u)
		odd = append(odd, u)
	}
	for i, u := range odd {
		for _, x := range append(reads("p x (f) z 1"), wrong()...) {
			if o, id, e := elab.Term(sigma(), u, x, 50); len(o.Nodes) != 0 || id != 0 || e != api.ErrArg {
				t.Error(i, x.Text, o, id, e)
			}
		}
		for id := -1; id <= len(u.Nodes); id++ {
			if s, e := elab.Text(sigma(), u, id); s != "" || e != api.ErrArg {
				t.Error("Text", i, id, s, e)
			}
		}
	}
	for i, g := range wrongSigs() {
		if o, id, e := elab.Term(g, term.New(), sym("true"), 50); len(o.Nodes) != 0 || id != 0 || e != api.ErrArg {
			t.Error("signature", i, o, id, e)
		}
		if s, e := elab.Text(g, term.New(), 0); s != "" || e != api.ErrArg {
			t.Error("Text", i, s, e)
		}
	}
}

// P7.2: macros: bodies, what is known in them, whose names count.
func TestTermMacros(t *testing.T) {
	i := []api.Param{{Name: "a", Sort: api.Int}}
	g := with(
		api.Macro{Name: "twice", Params: i, Res: api.Int, Body: read("(f (f a))")},
		api.Macro{Name: "four", Params: i, Res: api.Int, Body: read("(twice (twice a))")},
		api.Macro{Name: "hide", Params: []api.Param{{Name: "x", Sort: api.Int}, {Name: "y", Sort: api.Int}}, Body: read("(let ((x y) (y x)) (<= x y))")},
		api.Macro{Name: "ahead", Res: api.Int, Body: read("(later 1)")},
		api.Macro{Name: "later", Params: i, Res: api.Int, Body: sym("a")},
		api.Macro{Name: "self", Params: i, Res: api.Int, Body: read("(self a)")},
		api.Macro{Name: "ofsort", Params: i, Body: sym("a")},
		api.Macro{Name: "about", Params: i, Res: api.Int, Body: read("(f (ite (ofsort a) 1 2))")},
		api.Macro{Name: "badform", Body: read("(and z)")},
	)
	if e := sig.Check(g); e != api.OK {
		t.Fatal(e)
	}
	for x, want := range map[string]string{
		"(m 3 q)": "(and q (<= 3 x))", "c": "(+ x 1)", "(c)": "(+ x 1)", "(n s)": "(ite (and q (<= (+ x 1) x)) s (k s p (+ x 1)))",
		"(twice y)": "(f (f y))", "(four y)": "(f (f (f (f y))))", "(twice (twice (twice y)))": "(f (f (f (f (f (f y))))))", "(four (+ c 1))": "(f (f (f (f (+ (+ x 1) 1)))))",
		"(hide x y)": "(<= y x)", "(hide y x)": "(<= x y)", "(hide 1 2)": "(<= 2 1)", "(let ((x y) (y x)) (hide x y))": "(<= x y)", "(let ((a 5) (f p)) (twice a))": "(f (f 5))",
		"(let ((x 5)) (m x p))": "(and p (<= 5 x))", "(let ((p q)) (m 1 p))": "(and q (<= 1 x))", "(let ((x 1)) c)": "(+ x 1)", "(let ((a p)) (m 1 a))": "(and p (<= 1 x))", "(later 1)": "1", "(m (later c) (hide 1 1))": "(and (<= 1 1) (<= (+ x 1) x))",
	} {
		o, id, e := elab.Term(g, term.New(), read(x), 100)
		s, e2 := elab.Text(g, o, id)
		if e != api.OK || e2 != api.OK || s != want {
			t.Error(x, s, e, e2)
		}
		hold(t, g, term.New(), read(x), 100)
	}
	for x, want := range map[string]api.Errno{
		"ahead": api.ErrName, "(f ahead)": api.ErrName, "(self 1)": api.ErrName, "(ofsort 1)": api.ErrSort, "(about 1)": api.ErrSort, "badform": api.ErrForm, "(ite badform (self 1) ahead)": api.ErrForm, "(ite true (self 1) badform)": api.ErrSort, "(= (self 1) (about 1))": api.ErrName, "(= (about 1) (self 1))": api.ErrSort,
	} {
		if e := hold(t, g, term.New(), read(x), 100); e != want {
			t.Error(x, e)
		}
		if _, e := elab.Sort(g, nil, read(x)); (e == api.OK) == (x == "(ite true (self 1) badform)") {
			t.Error("Sort", x, e) // which does not look into them
		}
	}
}

// P7.2: MaxCalls macros, and one more; one about others counts, too; each term
// by itself.
func TestTermCalls(t *testing.T) {
	g := api.Sig{Funs: []api.Fun{{Name: "p"}}, Macros: []api.Macro{
		{Name: "one", Body: sym("p")},
		{Name: "id", Params: []api.Param{{Name: "a"}}, Body: sym("a")},
		{Name: "ten", Body: list(append(syms("and"), syms(slices.Repeat([]string{"one"}, 9)...)...)...)},
		{Name: "bad", Body: sym("z")},
	}}
	conj := func(name string, n int, more ...api.Sexp) api.Sexp {
		return list(slices.Concat(syms("and"), syms(slices.Repeat([]string{name}, n)...), more)...)
	}
	for i, c := range []struct {
		x api.Sexp
		e api.Errno
	}{
		{conj("one", 299), api.OK}, {conj("one", 300), api.OK}, {conj("one", 301), api.ErrMany}, {conj("one", 5000), api.ErrMany},
		{conj("ten", 30), api.OK}, {conj("ten", 30, sym("one")), api.ErrMany}, {conj("ten", 29, syms("one", "one")...), api.OK}, {conj("ten", 29, conj("one", 10)), api.OK}, {conj("ten", 29, conj("one", 11)), api.ErrMany}, {conj("one", 291, sym("ten")), api.ErrMany}, {conj("one", 290, sym("ten")), api.OK},
		{conj("one", 150, slices.Repeat([]api.Sexp{list(sym("id"), sym("p"))}, 150)...), api.OK}, {conj("one", 150, slices.Repeat([]api.Sexp{list(sym("id"), sym("one"))}, 75)...), api.OK}, {conj("one", 150, slices.Repeat([]api.Sexp{list(sym("id"), sym("one"))}, 76)...), api.ErrMany},
		{conj("p", 1000), api.OK}, {list(sym("let"), list(list(sym("one"), sym("p"))), conj("one", 1000)), api.OK},
		{conj("one", 299, sym("bad")), api.ErrName}, {conj("one", 300, sym("bad")), api.ErrMany}, {conj("one", 300, list(sym("="), digits(overText), digits("1"))), api.ErrOver}, {conj("one", 301, list(sym("="), digits(overText), digits("1"))), api.ErrMany},
	} {
		for range 2 {
			if o, id, e := elab.Term(g, term.New(), c.x, 2000); e != c.e || e != api.OK && (id != 0 || len(o.Nodes) != 0) {
				t.Error(i, id, e)
			}
		}
		hold(t, g, term.New(), c.x, 2000)
	}
}

// P7.2: most, with many arguments, and with many pairs of few nodes.
func TestTermMany(t *testing.T) {
	many := func(head string, n int) api.Sexp {
		return list(append(syms(head), syms(slices.Repeat([]string{"p"}, n)...)...)...)
	}
	for _, c := range []struct {
		head     string
		n, nodes int
	}{
		{"and", 200, 204 - 2}, {"or", 200, 204 - 2}, {"xor", 200, 204 - 2}, {"=>", 200, 204 - 2},
		{"=", 200, 3 + 1 + 198}, {"distinct", 20, 3 + 2 + 189}, {"and", 20000, 20002}, {"=", 20000, 3 + 1 + 19998}, {"distinct", 200, 3 + 2 + 19899},
	} {
		x := many(c.head, c.n)
		o, id, e := elab.Term(sigma(), term.New(), x, c.nodes)
		if e != api.OK || len(o.Nodes) != c.nodes || id != c.nodes-1 || term.Check(o) != api.OK {
			t.Error(c.head, c.n, len(o.Nodes), id, e)
		}
		if o, id, e := elab.Term(sigma(), term.New(), x, c.nodes-1); e != api.ErrMany || id != 0 || len(o.Nodes) != 0 {
			t.Error(c.head, c.n, len(o.Nodes), id, e)
		}
		// what is there already needs no room
		if u, again, e := elab.Term(sigma(), o, x, -5); e != api.OK || again != id || !term.Same(o, u) {
			t.Error("again", c.head, c.n, again, e)
		}
	}
	for _, n := range []int{10000, 100000} { // this ends, too, and soon
		for _, most := range []int{3, 200, 2000} {
			if _, _, e := elab.Term(sigma(), term.New(), many("distinct", n), most); e != api.ErrMany {
				t.Error(n, most, e)
			}
		}
	}
}

// P7.3: the text of each kind of node.
func TestText(t *testing.T) {
	g := api.Sig{
		Sorts: []string{"S"},
		Funs: []api.Fun{
			{Name: "x", Res: api.Int}, {Name: "p"}, {Name: "a b", Res: api.Own}, {Name: "", Len: 1, Args: args(api.Own), Res: api.Int}, {Name: "1a", Len: 2, Args: args(api.Bool, api.Int)},
			{Name: "k", Len: 3, Args: args(api.Own, api.Int, api.Bool), Res: api.Own}, {Name: "Int"}, {Name: "(f x)"},
		},
		Macros: []api.Macro{{Name: "m", Body: sym("p")}},
	}
	const b, i, s = api.Bool, api.Int, api.Own
	l := []struct {
		n    api.Node
		want string
	}{
		{node(api.OpTrue, b), "true"}, {node(api.OpNum, i), "0"}, {app(0, i), "x"}, {app(1, b), "p"}, {app(2, s), "|a b|"}, // 0 to 4
		{node(api.OpNot, b, 0), "(not true)"}, {node(api.OpAnd, b, 3, 5), "(and p (not true))"}, {node(api.OpOr, b, 3, 3), "(or p p)"}, {node(api.OpXor, b, 0, 3), "(xor true p)"}, {node(api.OpImp, b, 3, 0), "(=> p true)"}, // 5 to 9
		{node(api.OpEq, b, 4, 4), "(= |a b| |a b|)"}, {node(api.OpEq, b, 3, 0), "(= p true)"}, {node(api.OpIte, i, 3, 2, 1), "(ite p x 0)"}, {node(api.OpIte, s, 3, 4, 4), "(ite p |a b| |a b|)"}, {node(api.OpLe, b, 2, 1), "(<= x 0)"}, {node(api.OpLt, b, 1, 2), "(< 0 x)"}, // 10 to 15
		{withN(node(api.OpNum, i), 7), "7"}, {withN(node(api.OpNum, i), -7), "(- 7)"}, {withN(node(api.OpNum, i), api.Most), mostText}, {withN(node(api.OpNum, i), -api.Most), "(- " + mostText + ")"}, // 16 to 19
		{withN(node(api.OpAdd, i, 2), 3), "(+ x 3)"}, {withN(node(api.OpAdd, i, 2), -3), "(- x 3)"}, {withN(node(api.OpAdd, i, 2), 0), "(+ x 0)"}, {withN(node(api.OpAdd, i, 17), -1), "(- (- 7) 1)"}, {withN(node(api.OpAdd, i, 21), api.Most), "(+ (- x 3) " + mostText + ")"}, {withN(node(api.OpAdd, i, 2), -api.Most), "(- x " + mostText + ")"}, // 20 to 25
		{withN(node(api.OpDiff, b, 2, 20), 3), "(<= (- x (+ x 3)) 3)"}, {withN(node(api.OpDiff, b, 20, 2), -3), "(<= (- (+ x 3) x) (- 3))"}, {withN(node(api.OpDiff, b, 2, 2), 0), "(<= (- x x) 0)"}, {withN(node(api.OpDiff, b, 2, 16), -api.Most), "(<= (- x 7) (- " + mostText + "))"}, {withN(node(api.OpDiff, b, 19, 2), api.Most), "(<= (- (- " + mostText + ") x) " + mostText + ")"}, // 26 to 30
		{app(3, i, 4), "(|| |a b|)"}, {app(4, b, 0, 31), "(|1a| true (|| |a b|))"}, {app(5, s, 4, 17, 32), "(k |a b| (- 7) (|1a| true (|| |a b|)))"}, {app(6, b), "Int"}, {app(7, b), "|(f x)|"}, {app(3, i, 33), "(|| (k |a b| (- 7) (|1a| true (|| |a b|))))"},
	}
	var u api.Table
	for _, c := range l {
		u.Nodes = append(u.Nodes, c.n)
	}
	if e := typing.Table(g, u); e != api.OK {
		t.Fatal(e)
	}
	for id, c := range l {
		if s, e := elab.Text(g, u, id); s != c.want || e != api.OK {
			t.Error(id, s, e)
		}
		if s := nodeText(g, u, id); s != c.want {
			t.Error("the second reading", id, s)
		}
	}
	for _, id := range []int{len(l), len(l) + 1, -1, -2, math.MinInt, math.MaxInt} {
		if s, e := elab.Text(g, u, id); s != "" || e != api.ErrArg {
			t.Error(id, s, e)
		}
	}
	if s, e := elab.Text(api.Sig{}, u, 0); s != "" || e != api.ErrArg {
		t.Error(s, e)
	}
	if s, e := elab.Text(api.Sig{}, term.New(), 1); s != "0" || e != api.OK {
		t.Error(s, e)
	}
}

// P7.3: MaxText bytes, and one more; trees of more than 4096 parts, far more,
// and deeper than expressions may be.
func TestTextLong(t *testing.T) {
	g := api.Sig{Funs: []api.Fun{{Name: "aa"}, {Name: "aaa"}, {Name: "f", Len: 3, Args: args(0, 0, 0)}, {Name: "a"}, {Name: strings.Repeat("b", 100), Len: 1}}}
	// nots is a table of a function's node, and n nots about it
	nots := func(f, n int) api.Table {
		u := table(app(f, api.Bool))
		for range n {
			u.Nodes = append(u.Nodes, node(api.OpNot, api.Bool, len(u.Nodes)-1))
		}
		return u
	}
	const deep = (api.MaxText - 2) / 6
	want := strings.Repeat("(not ", deep) + "aa" + strings.Repeat(")", deep)
	if len(want) != api.MaxText {
		t.Fatal(len(want))
	}
	u := nots(0, deep)
	if s, e := elab.Text(g, u, len(u.Nodes)-1); s != want || e != api.OK {
		t.Error(len(s), e)
	}
	for _, u := range []api.Table{nots(1, deep), nots(0, deep+1), nots(0, 3*deep), nots(0, 4094), nots(0, 4095), nots(0, 4096), nots(3, 20000)} {
		last := len(u.Nodes) - 1
		if s, e := elab.Text(g, u, last); s != "" || e != api.ErrLong {
			t.Error(last, len(s), e)
		}
		if s, e := elab.Text(g, u, last-2*deep); last >= 2*deep+2 && term.Tree(u, last-2*deep) <= deep && (e != api.OK || s == "") {
			t.Error(last, len(s), e)
		}
	}
	// what doubles, up to far more parts than numbers tell
	u = table(app(3, api.Bool))
	for at := 2; at < 150; at++ {
		u.Nodes = append(u.Nodes, app(2, api.Bool, at, at, at))
	}
	for id := 2; id < 150; id++ {
		s, e := elab.Text(g, u, id)
		want := api.ErrLong
		if id < 10 && len(nodeText(g, u, id)) <= api.MaxText {
			want = api.OK
		}
		if e != want || (s == "") == (e == api.OK) {
			t.Error(id, len(s), e)
		}
	}
	// the last byte of each kind of node counts
	for _, last := range []api.Node{node(api.OpNot, api.Bool, 2), node(api.OpAnd, api.Bool, 2, 3), node(api.OpEq, api.Bool, 3, 2), node(api.OpIte, api.Bool, 2, 2, 2), app(4, api.Bool, 2), app(2, api.Bool, 2, 3, 2)} {
		heldLast(t, g, last)
	}
}

// heldLast holds Text of last, whose arguments are a name of one byte and a not
// of it, in so many nots that all have about MaxText bytes.
func heldLast(t *testing.T, g api.Sig, last api.Node) {
	t.Helper()
	u := table(app(3, api.Bool), node(api.OpNot, api.Bool, 2), last)
	id := slices.Index(u.Nodes, last)
	u.Nodes = u.Nodes[:max(id+1, 4)]
	for size := len(nodeText(g, u, id)); size <= api.MaxText+20; size += len("(not )") {
		if size > api.MaxText-20 {
			s, e := elab.Text(g, u, id)
			if size <= api.MaxText && (e != api.OK || len(s) != size) || size > api.MaxText && (e != api.ErrLong || s != "") {
				t.Error(last, size, len(s), e)
			}
		}
		id, u.Nodes = len(u.Nodes), append(u.Nodes, node(api.OpNot, api.Bool, id))
	}
}

// P7.4: the text of what a difference that is none of the logic was made to by
// a let or a macro is read as another node.
func TestTextDifference(t *testing.T) {
	g := with(api.Macro{Name: "gap", Params: []api.Param{{Name: "a", Sort: api.Int}, {Name: "b", Sort: api.Int}}, Body: read("(<= (- a b) 3)")})
	for _, x := range []string{"(let ((v 5)) (<= (- x v) 3))", "(gap x 5)", "(gap x (later))"} {
		g := g
		g.Macros = append(g.Macros, api.Macro{Name: "later", Res: api.Int, Body: digits("5")})
		u, id, e := elab.Term(g, term.New(), read(x), 50)
		if e != api.OK || u.Nodes[id] != withN(node(api.OpDiff, api.Bool, u.Nodes[id].Args[:2]...), 3) {
			t.Fatal(x, u, id, e)
		}
		if s, e := elab.Text(g, u, id); s != "(<= (- x 5) 3)" || e != api.OK {
			t.Error(x, s, e)
		}
		if o, again, e := elab.Term(g, u, read("(<= (- x 5) 3)"), 50); e != api.OK || again == id || o.Nodes[again].Op != api.OpLe {
			t.Error(x, o, again, e)
		}
		hold(t, g, term.New(), read(x), 50)
	}
}

// P7.4: nodes behind, whatever else is put; their texts stay.
func TestFollows(t *testing.T) {
	g, u := sigma(), term.New()
	texts := map[int]string{}
	for _, x := range reads("(and p q p) (=> p q (= s s)) (< (- x y) 3) (let ((a (f x))) (<= a (+ a 1))) (n (n s)) (ite (m c q) t t) (distinct x y |a b|) (> 3 (- 5 x)) (xor p (h (- x 5) (k s p 0))) (- 9) false 0 true") {
		o, id, e := elab.Term(g, u, x, 100)
		if e != api.OK || !slices.Equal(o.Nodes[:len(u.Nodes)], u.Nodes) {
			t.Fatal(o, id, e)
		}
		u = o
		texts[id], _ = elab.Text(g, u, id)
		for at, was := range texts {
			s, e := elab.Text(g, u, at)
			again, id, e2 := elab.Term(g, u, read(s), 0)
			if s != was || e != api.OK || e2 != api.OK || id != at || !term.Same(u, again) {
				t.Error(at, was, s, e, e2, id)
			}
		}
	}
}

// copied is g in memory of its own.
func copied(g api.Sig) api.Sig {
	g.Sorts, g.Funs, g.Macros = slices.Clone(g.Sorts), slices.Clone(g.Funs), slices.Clone(g.Macros)
	for i := range g.Macros {
		g.Macros[i].Params = slices.Clone(g.Macros[i].Params)
		g.Macros[i].Body = copiedSexp(g.Macros[i].Body)
	}
	return g
}

func copiedSexp(x api.Sexp) api.Sexp {
	x.L = slices.Clone(x.L)
	for i, y := range x.L {
		x.L[i] = copiedSexp(y)
	}
	return x
}

// R3, R4: what is handed in is as it was, spare room included; nothing of it is
// in an answer, or kept.
func TestMemory(t *testing.T) {
	g, x := sigma(), read("(let ((v (n s)) (w (+ x 9))) (and (m w q) (distinct v s (k s p w)) (> (- w y) 3)))")
	funs := append(g.Funs, api.Fun{Name: "spare"})
	macros := append(g.Macros, api.Macro{Name: "spare"})
	g.Funs, g.Macros = funs[:len(g.Funs)], macros[:len(g.Macros)]
	room := append(someNodes().Nodes, app(3, 0), app(4, 2), app(5, 3))
	u := api.Table{Nodes: room[:next]}
	spare := append(x.L, sym("spare"), sym("spare"))
	x.L = spare[:3]
	vars := []api.Param{{Name: "v", Sort: 1}, {Name: "spare", Sort: 5}}
	wasG, wasX, wasRoom, wasVars, wasFuns := copied(g), copiedSexp(x), slices.Clone(room), slices.Clone(vars), slices.Clone(funs)
	var first api.Table
	for range 3 {
		o, id, e := elab.Term(g, u, x, 100)
		if e != api.OK || id != len(o.Nodes)-1 {
			t.Fatal(o, id, e)
		}
		if first.Nodes != nil && !slices.Equal(first.Nodes[1:], o.Nodes[1:]) {
			t.Error("another answer", first, o)
		}
		o.Nodes[0].N = 77
		first = o
		same, _, _ := elab.Term(g, u, sym("x"), 100)
		same.Nodes[nx].N = 77
		_ = append(same.Nodes, app(7, 7))
		elab.Term(g, u, x, len(u.Nodes)+3)
		elab.Sort(g, vars[:1], x)
		elab.Sort(g, vars[:1], read("(let ((v p) (u v)) (+ u 1))"))
		elab.Fits(g, api.Macro{Name: "o", Params: vars[:1], Body: x})
		elab.Text(g, u, np)
		elab.Numeral(x)
	}
	if !sig.Same(g, wasG) || !sexpr.Same(x, wasX) || !slices.Equal(room, wasRoom) || !slices.Equal(vars, wasVars) || !slices.Equal(funs, wasFuns) {
		t.Error("changed", g, x, room, vars, funs)
	}
	if macros[3].Name != "spare" || macros[3].Body.Text != "" || !sexpr.Same(list(spare[3:]...), list(syms("spare", "spare")...)) {
		t.Error("spare room changed")
	}
}
