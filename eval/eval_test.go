package eval_test

import (
	"math"
	"slices"
	"testing"

	"gantry/api"
	"gantry/eval"
	"gantry/term"
	"gantry/typing"
)

const (
	own   = api.Own // S
	other = own + 1 // T
)

// The functions of sigma.
const (
	fP = iota // a Bool
	fQ        // a Bool
	fX        // an Int
	fY        // an Int
	fA        // an S
	fB        // an S
	fF        // of an Int, to Int
	fK        // of a Bool, to Int
	fH        // of an S, to T
	fR        // of an Int, an S and a Bool, to Bool
	fC        // of a T and a T, to Int
)

// Places of base(): the functions without arguments; and how many there are.
const (
	p = 2 + iota
	q
	x
	y
	a
	b
	end
)

func args(l ...int) (a [api.MaxArgs]int) {
	copy(a[:], l)
	return a
}

func row(v int, l ...int) api.Row { return api.Row{Args: args(l...), Val: v} }

func sigma() api.Sig {
	return api.Sig{Sorts: []string{"S", "T"}, Funs: []api.Fun{
		fP: {Name: "p", Res: api.Bool},
		fQ: {Name: "q", Res: api.Bool},
		fX: {Name: "x", Res: api.Int},
		fY: {Name: "y", Res: api.Int},
		fA: {Name: "a", Res: own},
		fB: {Name: "b", Res: own},
		fF: {Name: "f", Len: 1, Args: args(api.Int), Res: api.Int},
		fK: {Name: "k", Len: 1, Args: args(api.Bool), Res: api.Int},
		fH: {Name: "h", Len: 1, Args: args(own), Res: other},
		fR: {Name: "r", Len: 3, Args: args(api.Int, own, api.Bool), Res: api.Bool},
		fC: {Name: "c", Len: 2, Args: args(other, other), Res: api.Int},
	}}
}

// some is a world of sigma in which p is true and q is not.
func some() api.World {
	return api.World{Sizes: []int{3, 4}, Funs: []api.FunVal{
		fP: {Else: 1},
		fQ: {},
		fX: {Else: 5},
		fY: {Rows: []api.Row{row(7)}, Else: 3},
		fA: {Else: 2},
		fB: {},
		fF: {Rows: []api.Row{row(50, 5), row(-60, -2)}, Else: 9},
		fK: {Rows: []api.Row{row(4)}, Else: 6},
		fH: {Rows: []api.Row{row(1, 2)}, Else: 3},
		fR: {Rows: []api.Row{row(1, 5, 2, 1)}},
		fC: {Rows: []api.Row{row(-1, 1, 3), row(-2, 3, 1)}},
	}}
}

// of is some(), in which x and y are those numbers.
func of(x, y int) api.World {
	w := some()
	w.Funs[fX], w.Funs[fY] = api.FunVal{Else: x}, api.FunVal{Else: y}
	return w
}

// A grow is a table that grows, well sorted under sigma().
type grow struct {
	*testing.T
	t api.Table
}

// base is a table with the functions without arguments.
func base(t *testing.T) *grow {
	w := &grow{t, term.New()}
	for f := range end - p {
		w.app(f)
	}
	return w
}

// put puts a node: its place.
func (w *grow) put(op int8, f, n int, l ...int) int {
	w.Helper()
	x, e := typing.Make(sigma(), w.t, op, l, f, n)
	if e != api.OK {
		w.Fatal(op, f, n, l, e)
	}
	t, at, e := term.Put(w.t, x, math.MaxInt)
	if e != api.OK {
		w.Fatal(e)
	}
	w.t = t
	return at
}

func (w *grow) app(f int, l ...int) int {
	w.Helper()
	return w.put(api.OpApp, f, 0, l...)
}

func (w *grow) num(n int) int {
	w.Helper()
	return w.put(api.OpNum, 0, n)
}

func (w *grow) add(at, n int) int {
	w.Helper()
	return w.put(api.OpAdd, 0, n, at)
}

// is asks that the node at that place has a value in m, and that it is want.
func (w *grow) is(m api.World, at, want int) {
	w.Helper()
	l, over, e := eval.Values(sigma(), m, w.t)
	if e != api.OK || len(l) != len(w.t.Nodes) || len(over) != len(l) || l[at] != want || over[at] {
		w.Error("Values", w.t.Nodes[at], at, want, l, over, e)
	}
	if v, e := eval.Value(sigma(), m, w.t, at); v != want || e != api.OK {
		w.Error("Value", w.t.Nodes[at], at, want, v, e)
	}
	all, e := eval.All(sigma(), m, w.t, []int{at})
	if w.t.Nodes[at].Sort != api.Bool && (all || e != api.ErrSort) || w.t.Nodes[at].Sort == api.Bool && (all != (want == 1) || e != api.OK) {
		w.Error("All", w.t.Nodes[at], at, want, all, e)
	}
}

// overflows asks that just those nodes do.
func (w *grow) overflows(m api.World, want ...int) {
	w.Helper()
	l, over, e := eval.Values(sigma(), m, w.t)
	if e != api.OK || len(l) != len(w.t.Nodes) || len(over) != len(l) {
		w.Fatal(l, over, e)
	}
	for at := range l {
		is := slices.Contains(want, at)
		if over[at] != is || is && l[at] != 0 {
			w.Error("Values", at, l[at], over[at])
		}
		v, e := eval.Value(sigma(), m, w.t, at)
		if is && (v != 0 || e != api.ErrOver) || !is && (v != l[at] || e != api.OK) {
			w.Error("Value", at, v, e)
		}
		all, e := eval.All(sigma(), m, w.t, []int{at})
		if is && (all || e != api.ErrOver) || !is && e == api.ErrOver {
			w.Error("All", at, all, e)
		}
	}
}

// P10.1: each kind in a world, the connectives at all their arguments.
func TestKinds(t *testing.T) {
	for _, c := range []struct {
		op   int8
		f, n int
		args []int
		want int
	}{
		{api.OpTrue, 0, 0, nil, 1},
		{api.OpNot, 0, 0, []int{p}, 0},
		{api.OpNot, 0, 0, []int{q}, 1},
		{api.OpAnd, 0, 0, []int{p, p}, 1},
		{api.OpAnd, 0, 0, []int{p, q}, 0},
		{api.OpAnd, 0, 0, []int{q, p}, 0},
		{api.OpAnd, 0, 0, []int{q, q}, 0},
		{api.OpOr, 0, 0, []int{p, p}, 1},
		{api.OpOr, 0, 0, []int{p, q}, 1},
		{api.OpOr, 0, 0, []int{q, p}, 1},
		{api.OpOr, 0, 0, []int{q, q}, 0},
		{api.OpXor, 0, 0, []int{p, p}, 0},
		{api.OpXor, 0, 0, []int{p, q}, 1},
		{api.OpXor, 0, 0, []int{q, p}, 1},
		{api.OpXor, 0, 0, []int{q, q}, 0},
		{api.OpImp, 0, 0, []int{p, p}, 1},
		{api.OpImp, 0, 0, []int{p, q}, 0},
		{api.OpImp, 0, 0, []int{q, p}, 1},
		{api.OpImp, 0, 0, []int{q, q}, 1},
		{api.OpEq, 0, 0, []int{p, p}, 1},
		{api.OpEq, 0, 0, []int{p, api.True}, 1},
		{api.OpEq, 0, 0, []int{p, q}, 0},
		{api.OpEq, 0, 0, []int{q, p}, 0},
		{api.OpEq, 0, 0, []int{q, q}, 1},
		{api.OpEq, 0, 0, []int{x, y}, 0},
		{api.OpEq, 0, 0, []int{x, x}, 1},
		{api.OpEq, 0, 0, []int{a, b}, 0},
		{api.OpEq, 0, 0, []int{b, b}, 1},
		{api.OpIte, 0, 0, []int{p, x, y}, 5},
		{api.OpIte, 0, 0, []int{q, x, y}, 7},
		{api.OpIte, 0, 0, []int{p, q, p}, 0},
		{api.OpIte, 0, 0, []int{q, q, p}, 1},
		{api.OpIte, 0, 0, []int{p, a, b}, 2},
		{api.OpIte, 0, 0, []int{q, a, b}, 0},
		{api.OpLe, 0, 0, []int{x, y}, 1},
		{api.OpLe, 0, 0, []int{x, x}, 1},
		{api.OpLe, 0, 0, []int{y, x}, 0},
		{api.OpLt, 0, 0, []int{x, y}, 1},
		{api.OpLt, 0, 0, []int{x, x}, 0},
		{api.OpLt, 0, 0, []int{y, x}, 0},
		{api.OpNum, 0, 0, nil, 0},
		{api.OpNum, 0, -8, nil, -8},
		{api.OpNum, 0, api.Most, nil, api.Most},
		{api.OpNum, 0, -api.Most, nil, -api.Most},
		{api.OpAdd, 0, 1, []int{x}, 6},
		{api.OpAdd, 0, 0, []int{x}, 5},
		{api.OpAdd, 0, -9, []int{x}, -4},
		{api.OpDiff, 0, -2, []int{x, y}, 1},
		{api.OpDiff, 0, -3, []int{x, y}, 0},
		{api.OpDiff, 0, 2, []int{y, x}, 1},
		{api.OpDiff, 0, 1, []int{y, x}, 0},
		{api.OpDiff, 0, 0, []int{x, x}, 1},
		{api.OpDiff, 0, -1, []int{x, x}, 0},
		{api.OpApp, fX, 0, nil, 5},
		{api.OpApp, fY, 0, nil, 7},
		{api.OpApp, fF, 0, []int{x}, 50},
		{api.OpApp, fF, 0, []int{y}, 9},
		{api.OpApp, fK, 0, []int{q}, 4},
		{api.OpApp, fK, 0, []int{p}, 6},
		{api.OpApp, fH, 0, []int{a}, 1},
		{api.OpApp, fH, 0, []int{b}, 3},
		{api.OpApp, fR, 0, []int{x, a, p}, 1},
		{api.OpApp, fR, 0, []int{y, a, p}, 0},
		{api.OpApp, fR, 0, []int{x, b, p}, 0},
		{api.OpApp, fR, 0, []int{x, a, q}, 0},
	} {
		w := base(t)
		w.is(some(), w.put(c.op, c.f, c.n, c.args...), c.want)
	}
}

// P10.1: what nodes above nodes are, each of them told.
func TestDeep(t *testing.T) {
	w := base(t)
	two := w.add(y, -9)
	f := w.app(fF, two)
	r := w.app(fR, x, a, w.put(api.OpLt, 0, 0, f, two))
	ite := w.put(api.OpIte, 0, 0, r, f, x)
	c := w.app(fC, w.app(fH, a), w.app(fH, b))
	d := w.app(fC, w.app(fH, b), w.app(fH, a))
	no := w.put(api.OpNot, 0, 0, w.put(api.OpEq, 0, 0, c, d))
	for _, v := range [][2]int{{two, -2}, {f, -60}, {r, 1}, {ite, -60}, {c, -1}, {d, -2}, {no, 1}} {
		w.is(some(), v[0], v[1])
	}
	l, over, e := eval.Values(sigma(), some(), w.t)
	if !slices.Equal(l, []int{1, 0, 1, 0, 5, 7, 2, 0, -2, -60, 1, 1, -60, 1, 3, -1, -2, 0, 1}) || slices.Contains(over, true) || len(over) != len(l) || e != api.OK {
		t.Error(l, over, e)
	}
	l, over, e = eval.Values(api.Sig{}, api.World{}, term.New())
	if !slices.Equal(l, []int{1, 0}) || !slices.Equal(over, []bool{false, false}) || e != api.OK {
		t.Error(l, over, e)
	}
}

// P10.1: differences are those of integers, which no int need hold.
func TestDiffs(t *testing.T) {
	const m = api.Most
	for _, c := range []struct{ x, y, n, want int }{
		{m, -m, m, 0},
		{m, -m, -m, 0},
		{m, -m, 0, 0},
		{-m, m, -m, 1},
		{-m, m, m, 1},
		{-m, m, 0, 1},
		{m, 0, m, 1},
		{m, -1, m, 0},
		{m, 1, m - 1, 1},
		{m, 1, m - 2, 0},
		{-m, 0, -m, 1},
		{-m, -1, -m, 0},
		{1 << 61, -1 << 61, m, 1},
		{1 << 61, -1<<61 - 1, m, 0},
	} {
		w := base(t)
		w.is(of(c.x, c.y), w.put(api.OpDiff, 0, c.n, x, y), c.want)
	}
	w := base(t)
	w.is(of(m, -m), w.put(api.OpLe, 0, 0, x, y), 0)
	w.is(of(m, -m), w.put(api.OpLe, 0, 0, y, x), 1)
	w.is(of(m, -m), w.put(api.OpLt, 0, 0, x, y), 0)
	w.is(of(m, -m), w.put(api.OpLt, 0, 0, y, x), 1)
	w.is(of(m, -m), w.put(api.OpEq, 0, 0, x, y), 0)
}

// P10.1: sums that are just within, and just past.
func TestSums(t *testing.T) {
	const m = api.Most
	for _, c := range []struct {
		x, n int
		over bool
	}{
		{m - 1, 1, false},
		{m, 0, false},
		{m, 1, true},
		{m - 1, 2, true},
		{1, m - 1, false},
		{0, m, false},
		{1, m, true},
		{m, m, true},
		{m, -m, false},
		{1 - m, -1, false},
		{-m, 0, false},
		{-m, -1, true},
		{1 - m, -2, true},
		{-1, 1 - m, false},
		{0, -m, false},
		{-1, -m, true},
		{-m, -m, true},
		{-m, m, false},
	} {
		w := base(t)
		sum := w.add(x, c.n)
		if c.over {
			w.overflows(of(c.x, 0), sum)
		} else {
			w.overflows(of(c.x, 0))
			w.is(of(c.x, 0), sum, c.x+c.n)
		}
	}
}

// P10.1: what overflows is what it is reached from, whatever is made of it, and
// nothing else, be it ahead or behind.
func TestOver(t *testing.T) {
	for _, m := range []api.World{of(1, 1), of(-1, -1)} {
		w := base(t)
		far := w.add(x, api.Most*m.Funs[fX].Else)
		l := []int{
			far,
			w.add(far, 0),
			w.add(far, -api.Most*m.Funs[fX].Else),
			w.app(fF, far),
			w.app(fR, far, a, q),
			w.put(api.OpEq, 0, 0, far, far),
			w.put(api.OpLe, 0, 0, y, far),
			w.put(api.OpLt, 0, 0, far, y),
			w.put(api.OpDiff, 0, api.Most, far, y),
			w.put(api.OpDiff, 0, api.Most, y, far),
			w.put(api.OpIte, 0, 0, p, far, y),
			w.put(api.OpIte, 0, 0, p, y, far), // not taken
			w.put(api.OpIte, 0, 0, q, far, y), // not taken
			w.put(api.OpIte, 0, 0, q, y, far),
		}
		odd := l[6]
		l = append(l,
			w.put(api.OpNot, 0, 0, odd),
			w.put(api.OpAnd, 0, 0, q, odd),
			w.put(api.OpAnd, 0, 0, odd, q),
			w.put(api.OpOr, 0, 0, p, odd),
			w.put(api.OpOr, 0, 0, odd, p),
			w.put(api.OpXor, 0, 0, p, odd),
			w.put(api.OpImp, 0, 0, q, odd),
			w.put(api.OpImp, 0, 0, odd, p),
			w.put(api.OpIte, 0, 0, odd, x, x),
			w.put(api.OpIte, 0, 0, odd, a, b),
			w.app(fK, odd),
			w.app(fR, y, b, odd),
		)
		l = append(l, w.app(fH, l[len(l)-3])) // two away, of a sort that is declared
		l = append(l, w.app(fC, l[len(l)-1], w.app(fH, b)))
		near := []int{w.add(y, 1), w.app(fF, y), w.put(api.OpEq, 0, 0, x, y), w.put(api.OpIte, 0, 0, q, x, y)}
		w.overflows(m, l...)
		for i, v := range []int{m.Funs[fY].Else + 1, 9, 1, m.Funs[fY].Else} {
			w.is(m, near[i], v)
		}
	}
}

// ills are tables that are not well sorted under sigma(), but may be.
func ills(t *testing.T) (l []api.Table) {
	for _, change := range []func(*[]api.Node){
		func(n *[]api.Node) { (*n)[p].Sort = api.Int },
		func(n *[]api.Node) { (*n)[a].Sort = other },
		func(n *[]api.Node) { (*n)[b].Fun = api.MaxFuns - 1 },
		func(n *[]api.Node) { (*n)[end].Args[0] = p },
		func(n *[]api.Node) { (*n)[end].Sort = api.Int },
		func(n *[]api.Node) { (*n)[end+1].Args = args(a, p) },
		func(n *[]api.Node) { (*n)[end+2].Fun = fK },
		func(n *[]api.Node) { (*n)[end+2].Fun = fR },
	} {
		w := wide(t)
		change(&w.t.Nodes)
		l = append(l, w.t)
	}
	return l
}

// wrongs are tables that may not be.
func wrongs(t *testing.T) []api.Table {
	l := []api.Table{{}, {Nodes: []api.Node{{}}}, {Nodes: make([]api.Node, 9)}}
	for _, change := range []func(*[]api.Node){
		func(n *[]api.Node) { (*n)[0].Sort = api.Int },
		func(n *[]api.Node) { (*n)[1].N = 1 },
		func(n *[]api.Node) { *n = (*n)[1:] },
		func(n *[]api.Node) { *n = append(*n, (*n)[x]) },
		func(n *[]api.Node) { (*n)[end].Args[0] = end },
		func(n *[]api.Node) { (*n)[end].Args[0] = -1 },
		func(n *[]api.Node) { (*n)[end].Args[2] = 1 },
		func(n *[]api.Node) { (*n)[end].Len = 3 },
		func(n *[]api.Node) { (*n)[end].Len = 127 },
		func(n *[]api.Node) { (*n)[end].Len = -128 },
		func(n *[]api.Node) { (*n)[end].Op = api.OpApp + 1 },
		func(n *[]api.Node) { (*n)[end].Op = -1 },
		func(n *[]api.Node) { (*n)[end+2].Fun = -1 },
		func(n *[]api.Node) { (*n)[end+2].Fun = api.MaxFuns },
		func(n *[]api.Node) { (*n)[end+3].N = api.Most + 1 },
		func(n *[]api.Node) { (*n)[x].Sort = -1 },
		func(n *[]api.Node) { (*n)[x].Sort = 99 },
	} {
		w := wide(t)
		change(&w.t.Nodes)
		l = append(l, w.t)
	}
	return l
}

// wide is base() with some nodes more.
func wide(t *testing.T) *grow {
	w := base(t)
	w.put(api.OpLe, 0, 0, x, y)
	w.put(api.OpIte, 0, 0, end, a, b)
	w.app(fF, x)
	w.add(end+2, 3)
	w.put(api.OpDiff, 0, 1, end+3, x)
	return w
}

// worlds are those that may not be of sigma().
func worlds() []api.World {
	l := []api.World{{}, {Sizes: []int{1, 1}}}
	for _, change := range []func(*api.World){
		func(w *api.World) { w.Sizes[0] = 0 },
		func(w *api.World) { w.Sizes[1] = 1001 },
		func(w *api.World) { w.Sizes = w.Sizes[:1] },
		func(w *api.World) { w.Sizes = append(w.Sizes, 1) },
		func(w *api.World) { w.Funs = w.Funs[:fC] },
		func(w *api.World) { w.Funs = append(w.Funs, api.FunVal{}) },
		func(w *api.World) { w.Funs[fP].Else = 2 },
		func(w *api.World) { w.Funs[fX].Else = api.Most + 1 },
		func(w *api.World) { w.Funs[fC].Rows[0].Args[0] = 4 },
		func(w *api.World) { w.Funs[fC].Rows[0].Args[2] = 1 },
		func(w *api.World) { w.Funs[fC].Rows[1].Args = args(1, 3) },
		func(w *api.World) { w.Funs[fF].Rows[0].Val = -api.Most - 1 },
		func(w *api.World) { w.Funs[fF].Rows = make([]api.Row, 401) },
	} {
		w := some()
		change(&w)
		l = append(l, w)
	}
	return l
}

// sigs are those that may not be, with as many sorts and functions as sigma().
func sigs() (l []api.Sig) {
	for _, change := range []func(*api.Sig){
		func(g *api.Sig) { g.Sorts[1] = "S" },
		func(g *api.Sig) { g.Sorts[1] = "Int" },
		func(g *api.Sig) { g.Funs[fC].Name = "f" },
		func(g *api.Sig) { g.Funs[fC].Name = "and" },
		func(g *api.Sig) { g.Funs[fC].Len = -1 },
		func(g *api.Sig) { g.Funs[fC].Len = 4 },
		func(g *api.Sig) { g.Funs[fC].Args[2] = 1 },
		func(g *api.Sig) { g.Funs[fC].Res = -1 },
		func(g *api.Sig) { g.Macros = []api.Macro{{Name: "f", Body: api.Sexp{Text: "true"}}} },
	} {
		g := sigma()
		change(&g)
		l = append(l, g)
	}
	return l
}

// fails asks that all calls answer that error, and nothing else, whichever
// place they are asked of.
func fails(t *testing.T, g api.Sig, w api.World, l api.Table, want api.Errno) {
	t.Helper()
	if v, over, e := eval.Values(g, w, l); v != nil || over != nil || e != want {
		t.Error("Values", g, w, l, v, over, e)
	}
	for _, at := range []int{0, p, x, end, -1, 99} {
		if v, e := eval.Value(g, w, l, at); v != 0 || e != want {
			t.Error("Value", g, w, l, at, v, e)
		}
		for _, roots := range [][]int{nil, {at}, {at, at}} {
			if all, e := eval.All(g, w, l, roots); all || e != want {
				t.Error("All", g, w, l, roots, all, e)
			}
		}
	}
}

// P10.1, P10.2: what may not be goes ahead of what is not well sorted, and of
// places that there are not.
func TestErrors(t *testing.T) {
	good := wide(t).t
	if _, _, e := eval.Values(sigma(), some(), good); e != api.OK {
		t.Fatal(e)
	}
	for _, l := range wrongs(t) {
		fails(t, sigma(), some(), l, api.ErrArg)
	}
	for _, l := range ills(t) {
		fails(t, sigma(), some(), l, api.ErrSort)
	}
	for _, w := range worlds() {
		fails(t, sigma(), w, good, api.ErrArg)
		for _, l := range append(ills(t), wrongs(t)...) {
			fails(t, sigma(), w, l, api.ErrArg)
		}
	}
	for _, g := range sigs() {
		fails(t, g, some(), good, api.ErrArg)
		fails(t, g, some(), ills(t)[0], api.ErrArg)
	}
	fails(t, api.Sig{}, api.World{}, good, api.ErrSort)
	fails(t, api.Sig{}, some(), good, api.ErrArg)
	other := sigma()
	other.Funs[fF], other.Funs[fK] = other.Funs[fK], other.Funs[fF]
	m := some()
	m.Funs[fF] = api.FunVal{}
	fails(t, other, m, good, api.ErrSort)
}

// P10.2: places that there are not.
func TestPlaces(t *testing.T) {
	w := wide(t)
	n := len(w.t.Nodes)
	for _, at := range []int{n, n + 1, -1, -2, -n, math.MinInt, math.MaxInt, math.MinInt32, math.MaxInt32} {
		if v, e := eval.Value(sigma(), some(), w.t, at); v != 0 || e != api.ErrArg {
			t.Error(at, v, e)
		}
		for _, roots := range [][]int{{at}, {p, at}, {q, at}, {at, p}, {at, x}} {
			if all, e := eval.All(sigma(), some(), w.t, roots); all || e != api.ErrArg {
				t.Error(roots, all, e)
			}
		}
	}
	w.is(some(), n-1, 0)
	w.is(some(), 0, 1)
}

// P10.2: roots are told one by one; the first error is the answer, whatever the
// roots ahead of it are.
func TestAll(t *testing.T) {
	w := base(t)
	far := w.add(x, api.Most)
	odd := w.put(api.OpLe, 0, 0, far, y)
	le := w.put(api.OpLe, 0, 0, x, y)
	for _, c := range []struct {
		roots []int
		all   bool
		e     api.Errno
	}{
		{nil, true, api.OK},
		{[]int{}, true, api.OK},
		{[]int{0}, true, api.OK},
		{[]int{p}, true, api.OK},
		{[]int{q}, false, api.OK},
		{[]int{p, le, 0, p}, true, api.OK},
		{[]int{p, q, p}, false, api.OK},
		{[]int{q, p}, false, api.OK},
		{[]int{p, q}, false, api.OK},
		{[]int{q, q}, false, api.OK},
		{[]int{1}, false, api.ErrSort},
		{[]int{x}, false, api.ErrSort},
		{[]int{a}, false, api.ErrSort},
		{[]int{p, b}, false, api.ErrSort},
		{[]int{q, b}, false, api.ErrSort},
		{[]int{far}, false, api.ErrOver}, // not of Bool, too
		{[]int{odd}, false, api.ErrOver},
		{[]int{p, odd}, false, api.ErrOver},
		{[]int{q, odd}, false, api.ErrOver},
		{[]int{99}, false, api.ErrArg},
		{[]int{-1}, false, api.ErrArg},
		{[]int{x, odd, 99}, false, api.ErrSort},
		{[]int{x, 99, odd}, false, api.ErrSort},
		{[]int{odd, x, 99}, false, api.ErrOver},
		{[]int{odd, 99, x}, false, api.ErrOver},
		{[]int{99, x, odd}, false, api.ErrArg},
		{[]int{-1, odd, x}, false, api.ErrArg},
		{[]int{q, x, odd}, false, api.ErrSort},
		{[]int{q, p, odd, -1}, false, api.ErrOver},
	} {
		if all, e := eval.All(sigma(), some(), w.t, c.roots); all != c.all || e != c.e {
			t.Error(c, all, e)
		}
	}
}

// P10.1: AtMost at the ends, one past them, met exactly and missed by one.
func TestAtMost(t *testing.T) {
	const m = api.Most
	for _, c := range []struct {
		a, b, n int
		is      bool
	}{
		{0, 0, 0, true},
		{0, 0, -1, false},
		{5, 3, 2, true},
		{5, 3, 1, false},
		{3, 5, -2, true},
		{3, 5, -3, false},
		{-3, 5, -8, true},
		{-3, 5, -9, false},
		{m, m, 0, true},
		{m, m, -1, false},
		{-m, -m, 0, true},
		{-m, -m, -1, false},
		{m, 0, m, true},
		{m, 0, m - 1, false},
		{m, -1, m, false},
		{-m, 0, -m, true},
		{1 - m, 0, -m, false},
		{-m, -1, -m, false},
		{0, m, -m, true},
		{1, m, -m, false},
		{0, -m, m, true},
		{1, -m, m, false},
		{m, -m, m, false},
		{m, -m, 0, false},
		{m, -m, -m, false},
		{m, 1 - m, m, false},
		{m - 1, -m, m, false},
		{-m, m, -m, true},
		{-m, m, m, true},
		{-m, m, 0, true},
		{1 << 61, -1 << 61, m, true},
		{1 << 61, -1 << 61, m - 1, false},
		{1<<61 + 1, -1 << 61, m, false},
		{-1 << 61, 1 << 61, -m, true},
		{1 - 1<<61, 1 << 61, -m, false},
	} {
		if eval.AtMost(c.a, c.b, c.n) != c.is {
			t.Error(c)
		}
	}
	for _, far := range []int{m + 1, -m - 1, math.MaxInt, math.MinInt, math.MinInt + 1} {
		for _, n := range []int{0, 1, -1, m, -m, far} {
			for _, k := range []int{0, m, -m, far} {
				if eval.AtMost(far, n, k) || eval.AtMost(n, far, k) || eval.AtMost(n, k, far) {
					t.Error(far, n, k)
				}
			}
		}
	}
}
