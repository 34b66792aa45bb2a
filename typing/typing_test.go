package typing_test

import (
	"math"
	"slices"
	"testing"

	"gantry/api"
	"gantry/sexpr"
	"gantry/sig"
	"gantry/term"
	"gantry/typing"
)

// far are numbers that are no place, no sort and no function of anything.
var far = []int{math.MinInt, math.MinInt32, -256, -2, -1, 256, 1 << 20, math.MaxInt32, math.MaxInt}

func args(l ...int) (a [api.MaxArgs]int) {
	copy(a[:], l)
	return a
}

// sigma has two sorts, and functions of no, one, two and three arguments.
func sigma() api.Sig {
	return api.Sig{
		Sorts: []string{"S", "T"},
		Funs: []api.Fun{
			{Name: "x", Res: api.Int},
			{Name: "p", Res: api.Bool},
			{Name: "a", Res: api.Own},
			{Name: "b", Res: api.Own + 1},
			{Name: "f", Len: 1, Args: args(api.Int), Res: api.Own},
			{Name: "q", Len: 2, Args: args(api.Int, api.Own), Res: api.Bool},
			{Name: "h", Len: 3, Args: args(api.Own, api.Bool, api.Int), Res: api.Int},
		},
		Macros: []api.Macro{{Name: "m", Params: []api.Param{{Name: "y", Sort: api.Int}}, Res: api.Int,
			Body: api.Sexp{Kind: api.SxList, L: []api.Sexp{{Text: "f"}, {Text: "y"}}}}},
	}
}

// wrongSigs may not be, each for a reason of its own.
func wrongSigs() (l []api.Sig) {
	for _, change := range []func(*api.Sig){
		func(g *api.Sig) { g.Sorts[0] = "Int" },
		func(g *api.Sig) { g.Sorts = append(g.Sorts, "U", "V", "W") },
		func(g *api.Sig) { g.Sorts = g.Sorts[:1] },
		func(g *api.Sig) { g.Funs[6].Name = "and" },
		func(g *api.Sig) { g.Funs[6].Name = "x" },
		func(g *api.Sig) { g.Funs[0].Args[2] = 1 },
		func(g *api.Sig) { g.Funs[4].Len = -1 },
		func(g *api.Sig) { g.Funs[4].Len = 4 },
		func(g *api.Sig) { g.Funs[4].Res = -1 },
		func(g *api.Sig) { g.Macros[0].Name = "q" },
		func(g *api.Sig) { g.Macros[0].Body.L[0].Kind = 9 },
	} {
		g := sigma()
		change(&g)
		l = append(l, g)
	}
	endless := sigma()
	endless.Macros[0].Body.L[1] = endless.Macros[0].Body
	return append(l, endless)
}

// copied is g in memory of its own.
func copied(g api.Sig) api.Sig {
	return api.Sig{Sorts: slices.Clone(g.Sorts), Funs: slices.Clone(g.Funs), Macros: slices.Clone(g.Macros)}
}

func node(op int8, sort int, l ...int) api.Node {
	return api.Node{Op: op, Len: int8(len(l)), Args: args(l...), Sort: sort}
}

func app(f, sort int, l ...int) api.Node {
	n := node(api.OpApp, sort, l...)
	n.Fun = f
	return n
}

func with(n api.Node, number int) api.Node {
	n.N = number
	return n
}

// table is a table of True, Zero and those nodes.
func table(l ...api.Node) api.Table {
	return api.Table{Nodes: append(term.New().Nodes, l...)}
}

// Places of sorted(): functions without arguments, of Int, Bool, S and T; and
// how many there are.
const (
	x   = 2
	p   = 3
	a   = 4
	b   = 5
	end = 20
)

// sorted is a table with a node of each kind, well sorted under sigma().
func sorted() api.Table {
	return table(
		app(0, api.Int),
		app(1, api.Bool),
		app(2, api.Own),
		app(3, api.Own+1),
		node(api.OpNot, api.Bool, p),
		node(api.OpAnd, api.Bool, p, 6),
		node(api.OpOr, api.Bool, 7, p),
		node(api.OpXor, api.Bool, p, 8),
		node(api.OpImp, api.Bool, 9, api.True),
		node(api.OpEq, api.Bool, a, a),
		node(api.OpIte, api.Own+1, 11, b, b),
		node(api.OpLe, api.Bool, x, api.Zero),
		node(api.OpLt, api.Bool, api.Zero, x),
		with(node(api.OpNum, api.Int), -7),
		with(node(api.OpAdd, api.Int, x), 5),
		with(node(api.OpDiff, api.Bool, 16, x), -3),
		app(4, api.Own, 16),
		app(6, api.Int, 18, 17, 15),
	)
}

// placesOf are the places of sorted() of that sort.
func placesOf(sort int) (l []int) {
	for at, n := range sorted().Nodes {
		if n.Sort == sort {
			l = append(l, at)
		}
	}
	return l
}

// A fit is a kind's Args' sorts, and its Sort.
type fit struct {
	op    int8
	sorts []int
	res   int
}

// byWords are the chapter's rules, read once more: what fits, of sorts up to most.
func byWords(most int) (l []fit) {
	l = []fit{
		{api.OpTrue, nil, api.Bool},
		{api.OpNot, []int{api.Bool}, api.Bool},
		{api.OpAnd, []int{api.Bool, api.Bool}, api.Bool},
		{api.OpOr, []int{api.Bool, api.Bool}, api.Bool},
		{api.OpXor, []int{api.Bool, api.Bool}, api.Bool},
		{api.OpImp, []int{api.Bool, api.Bool}, api.Bool},
		{api.OpLe, []int{api.Int, api.Int}, api.Bool},
		{api.OpLt, []int{api.Int, api.Int}, api.Bool},
		{api.OpDiff, []int{api.Int, api.Int}, api.Bool},
		{api.OpNum, nil, api.Int},
		{api.OpAdd, []int{api.Int}, api.Int},
	}
	for s := range most + 1 {
		l = append(l, fit{api.OpEq, []int{s, s}, api.Bool}, fit{api.OpIte, []int{api.Bool, s, s}, s})
	}
	return l
}

// count is how many Args a kind has; -1 of what is none of Op's.
func count(op int8) int {
	for _, f := range byWords(0) {
		if f.op == op {
			return len(f.sorts)
		}
	}
	return -1
}

// eachRow goes over all rows of at most n of those numbers.
func eachRow(of []int, n int, do func(l []int)) {
	var grow func(l []int)
	grow = func(l []int) {
		do(slices.Clone(l))
		if len(l) < n {
			for _, s := range of {
				grow(append(l, s))
			}
		}
	}
	grow(nil)
}

// wantOp is what Op must answer.
func wantOp(op int8, sorts []int, fits []fit) (int, api.Errno) {
	if count(op) != len(sorts) {
		return 0, api.ErrArg
	}
	for _, f := range fits {
		if f.op == op && slices.Equal(f.sorts, sorts) {
			return f.res, api.OK
		}
	}
	return 0, api.ErrSort
}

// P6.1: each number that may be in Op, of each row of sorts, with those that
// are none, those that nobody has declared, and rows too long.
func TestOp(t *testing.T) {
	fits := byWords(9)
	eachRow([]int{math.MinInt, -2, -1, 0, 1, 2, 3, 5, 6, 9}, 4, func(l []int) {
		for op := int8(-2); op <= api.OpApp+2; op++ {
			want, wantE := wantOp(op, l, fits)
			if s, e := typing.Op(op, l); s != want || e != wantE {
				t.Fatal(op, l, s, e)
			}
		}
	})
	for op := math.MinInt8; op <= math.MaxInt8; op++ {
		for _, l := range [][]int{nil, {}, {0}, {1}, {0, 0}, {1, 1}, {0, 1, 1}, {0, 0, 0, 0}, make([]int, 300)} {
			want, wantE := wantOp(int8(op), l, fits)
			if s, e := typing.Op(int8(op), l); s != want || e != wantE {
				t.Fatal(op, l, s, e)
			}
		}
	}
	if s, e := typing.Op(api.OpIte, []int{0, math.MaxInt, math.MaxInt}); s != math.MaxInt || e != api.OK {
		t.Error(s, e)
	}
}

// P6.1: by the chapter's words, and its examples.
func TestOpTold(t *testing.T) {
	for i, c := range []struct {
		op    int8
		sorts []int
		res   int
		e     api.Errno
	}{
		{api.OpIte, []int{api.Bool, api.Int, api.Int}, api.Int, api.OK},
		{api.OpEq, []int{api.Bool, api.Int}, 0, api.ErrSort},
		{api.OpEq, []int{api.Int, api.Own}, 0, api.ErrSort},
		{api.OpEq, []int{api.Own, api.Own + 1}, 0, api.ErrSort},
		{api.OpEq, []int{api.Own + 3, api.Own + 3}, api.Bool, api.OK},
		{api.OpIte, []int{api.Bool, api.Bool, api.Bool}, api.Bool, api.OK},
		{api.OpIte, []int{api.Bool, api.Own, api.Own}, api.Own, api.OK},
		{api.OpIte, []int{api.Bool, api.Own, api.Int}, 0, api.ErrSort},
		{api.OpIte, []int{api.Bool, api.Bool, api.Int}, 0, api.ErrSort},
		{api.OpIte, []int{api.Int, api.Int, api.Int}, 0, api.ErrSort},
		{api.OpIte, []int{api.Own, api.Own, api.Own}, 0, api.ErrSort},
		{api.OpEq, []int{-1, -1}, 0, api.ErrSort},
		{api.OpIte, []int{api.Bool, -1, -1}, 0, api.ErrSort},
		{api.OpIte, []int{-1, api.Int, api.Int}, 0, api.ErrSort},
		// the number of sorts comes first
		{api.OpEq, []int{-1}, 0, api.ErrArg},
		{api.OpIte, []int{api.Int, -1, -1, -1}, 0, api.ErrArg},
		{api.OpApp, nil, 0, api.ErrArg},
		{api.OpApp, []int{-1}, 0, api.ErrArg},
	} {
		if s, e := typing.Op(c.op, c.sorts); s != c.res || e != c.e {
			t.Error(i, s, e)
		}
	}
}

// P6.1: each function, of each row of sorts.
func TestApp(t *testing.T) {
	g := sigma()
	eachRow([]int{math.MinInt, -1, 0, 1, 2, 3, 4, math.MaxInt}, 4, func(l []int) {
		for f, fun := range g.Funs {
			want, wantE := 0, api.ErrArg
			if len(l) == fun.Len {
				wantE = api.ErrSort
				if slices.Equal(l, fun.Args[:fun.Len]) {
					want, wantE = fun.Res, api.OK
				}
			}
			if s, e := typing.App(g, f, l); s != want || e != wantE {
				t.Fatal(f, l, s, e)
			}
		}
		for _, f := range append([]int{len(g.Funs), len(g.Funs) + 1, api.MaxFuns}, far...) {
			if s, e := typing.App(g, f, l); s != 0 || e != api.ErrArg {
				t.Fatal(f, l, s, e)
			}
		}
		if s, e := typing.App(api.Sig{}, 0, l); s != 0 || e != api.ErrArg {
			t.Fatal(l, s, e)
		}
	})
	if s, e := typing.App(g, 0, make([]int, 300)); s != 0 || e != api.ErrArg {
		t.Error(s, e)
	}
}

// P6.1, P6.2: under a signature that may not be: ErrArg, whatever else holds.
func TestWrongSig(t *testing.T) {
	u := sorted()
	for i, g := range wrongSigs() {
		for f := range g.Funs {
			for n := range api.MaxArgs + 1 {
				if s, e := typing.App(g, f, make([]int, n)); s != 0 || e != api.ErrArg {
					t.Error("App", i, f, s, e)
				}
			}
		}
		if e := typing.Table(g, u); e != api.ErrArg {
			t.Error("Table", i, e)
		}
		if e := typing.Table(g, term.New()); e != api.ErrArg {
			t.Error("Table of two", i, e)
		}
		for _, n := range []api.Node{app(0, api.Int), app(0, api.Own), node(api.OpNot, api.Bool, p), node(api.OpNot, api.Int, p), node(api.OpNot, api.Bool, 99)} {
			if e := typing.Node(g, u, n); e != api.ErrArg {
				t.Error("Node", i, n, e)
			}
			if m, e := typing.Make(g, u, n.Op, n.Args[:n.Len], n.Fun, n.N); e != api.ErrArg || m != (api.Node{}) {
				t.Error("Make", i, n, m, e)
			}
		}
	}
}

// wrongTables may not be.
func wrongTables() []api.Table {
	u := sorted()
	twice := table(append(u.Nodes[2:len(u.Nodes):len(u.Nodes)], u.Nodes[4])...)
	return []api.Table{{}, {Nodes: []api.Node{}}, {Nodes: u.Nodes[:1]}, {Nodes: u.Nodes[1:]}, twice,
		table(app(0, api.Int), node(api.OpNot, api.Bool, 3)), table(app(0, api.Own+4)), table(app(12, api.Int)), table(api.Node{Op: 14})}
}

// P6.2: with a table that may not be: ErrArg.
func TestWrongTable(t *testing.T) {
	g := sigma()
	for i, u := range wrongTables() {
		if e := typing.Table(g, u); e != api.ErrArg {
			t.Error("Table", i, e)
		}
		for _, n := range []api.Node{app(0, api.Int), app(0, api.Bool), node(api.OpNot, api.Bool, 0), node(api.OpNot, api.Bool, 99)} {
			if e := typing.Node(g, u, n); e != api.ErrArg {
				t.Error("Node", i, n, e)
			}
			if m, e := typing.Make(g, u, n.Op, n.Args[:n.Len], n.Fun, n.N); e != api.ErrArg || m != (api.Node{}) {
				t.Error("Make", i, n, m, e)
			}
		}
	}
}

// held holds Node, and Table of a table with n behind, against what must come
// of n behind u, which is well sorted under g.
func held(t *testing.T, g api.Sig, u api.Table, n api.Node, want api.Errno) {
	t.Helper()
	if e := typing.Node(g, u, n); e != want {
		t.Error("Node", n, e, want)
	}
	if _, there := term.Find(u, n); there {
		return
	}
	if e := typing.Table(g, api.Table{Nodes: append(slices.Clone(u.Nodes), n)}); e != want {
		t.Error("Table", n, e, want)
	}
}

// P6.2: each kind, of places of each row of sorts, with each Sort.
func TestNode(t *testing.T) {
	g, u := sigma(), sorted()
	fits := byWords(api.Own + 1)
	for f, fun := range g.Funs { // each as if it were a kind of its own
		fits = append(fits, fit{op: api.OpApp + int8(f), sorts: fun.Args[:fun.Len], res: fun.Res})
	}
	eachRow([]int{api.Bool, api.Int, api.Own, api.Own + 1}, api.MaxArgs, func(l []int) {
		var at []int
		for _, s := range l {
			all := placesOf(s)
			at = append(at, all[len(all)-1])
		}
		for op := range api.OpApp + int8(len(g.Funs)) {
			many := op >= api.OpApp || count(op) == len(l) // of an OpApp each number may stand
			sort, ok := -1, false
			for _, c := range fits {
				if c.op == op && slices.Equal(c.sorts, l) {
					sort, ok = c.res, true
				}
			}
			n := node(min(op, api.OpApp), 0, at...)
			n.Fun = max(0, int(op-api.OpApp))
			heldSorts(t, g, u, n, sort, many)
			m, e := typing.Make(g, u, n.Op, at, n.Fun, 0)
			switch {
			case !many && (e != api.ErrArg || m != (api.Node{})), many && !ok && (e != api.ErrSort || m != (api.Node{})):
				t.Error("Make", n, m, e)
			case ok:
				n.Sort = sort
				if e != api.OK || m != n {
					t.Error("Make", n, m, e)
				}
			}
		}
	})
}

// heldSorts holds n, of each Sort, against the one that it must have, if it
// has as many Args as may be.
func heldSorts(t *testing.T, g api.Sig, u api.Table, n api.Node, sort int, many bool) {
	t.Helper()
	for s := range api.Own + api.MaxSorts {
		n.Sort = s
		switch {
		case !many:
			held(t, g, u, n, api.ErrArg)
		case s == sort:
			held(t, g, u, n, api.OK)
		default:
			held(t, g, u, n, api.ErrSort)
		}
	}
	for _, s := range []int{-1, api.Own + api.MaxSorts, math.MinInt, math.MaxInt} {
		n.Sort = s
		held(t, g, u, n, api.ErrArg)
	}
}

// P6.2: a node that may not stand behind the table's nodes; it comes ahead of
// a Sort that does not fit.
func TestMayNotStand(t *testing.T) {
	g, u := sigma(), sorted()
	for i, n := range []api.Node{
		{Op: -1}, {Op: 14}, {Op: math.MaxInt8},
		node(api.OpNot, api.Bool, end), node(api.OpNot, api.Bool, -1), node(api.OpNot, api.Int, end),
		node(api.OpNot, api.Bool), node(api.OpNot, api.Bool, p, p), node(api.OpNum, api.Int, 0), node(api.OpIte, api.Int, p, x),
		{Op: api.OpNot, Len: 1, Args: args(p, 1)}, {Op: api.OpNot, Len: 1, Args: args(p, 0, 1), Sort: api.Int},
		{Op: api.OpApp, Len: -1}, {Op: api.OpApp, Len: 4}, {Op: api.OpApp, Len: math.MinInt8}, {Op: api.OpApp, Len: math.MaxInt8},
		app(-1, api.Int), app(12, api.Int), app(math.MaxInt, api.Int), app(math.MinInt, api.Int),
		with(node(api.OpNot, api.Bool, p), 1), with(app(0, api.Int), 1), with(node(api.OpEq, api.Int, x, a), 1),
		with(node(api.OpNum, api.Int), api.Most+1), with(node(api.OpAdd, api.Int, x), -api.Most-1), with(node(api.OpDiff, api.Bool, x, x), math.MaxInt),
		{Op: api.OpNot, Len: 1, Args: args(p), Fun: 1}, {Op: api.OpNum, Sort: api.Int, Fun: -1},
	} {
		if e := typing.Node(g, u, n); e != api.ErrArg {
			t.Error("Node", i, e)
		}
		if e := typing.Table(g, api.Table{Nodes: append(slices.Clone(u.Nodes), n)}); e != api.ErrArg {
			t.Error("Table", i, e)
		}
	}
}

// P6.2: what is there already may stand behind too; and of Args' nodes only
// their Sort counts, which a table that is not well sorted may have otherwise.
func TestNodeBehind(t *testing.T) {
	g, u := sigma(), sorted()
	for _, n := range u.Nodes {
		if e := typing.Node(g, u, n); e != api.OK {
			t.Error(n, e)
		}
	}
	odd := table(app(0, api.Bool), app(9, api.Own+3), node(api.OpNot, api.Int, 1))
	if e := typing.Table(g, odd); e != api.ErrSort {
		t.Error(e)
	}
	for _, c := range []struct {
		n api.Node
		e api.Errno
	}{
		{node(api.OpNot, api.Bool, 2), api.OK},
		{node(api.OpEq, api.Bool, 3, 3), api.OK},
		{node(api.OpIte, api.Own+3, 2, 3, 3), api.OK},
		{with(node(api.OpAdd, api.Int, 4), 1), api.OK},
		{with(node(api.OpAdd, api.Int, 2), 1), api.ErrSort},
		{odd.Nodes[2], api.ErrSort}, // though it is there
		{odd.Nodes[3], api.ErrSort},
		{odd.Nodes[4], api.ErrSort},
	} {
		if e := typing.Node(g, odd, c.n); e != c.e {
			t.Error(c.n, e)
		}
	}
}

// P6.2: well sorted; True and Zero alone; wrong at the first behind these, at a
// middle one, at the last one.
func TestTable(t *testing.T) {
	g, u := sigma(), sorted()
	if len(u.Nodes) != end || term.Check(u) != api.OK || sig.Check(g) != api.OK {
		t.Fatal("not what it should be")
	}
	for n := 2; n <= end; n++ {
		if e := typing.Table(g, api.Table{Nodes: u.Nodes[:n]}); e != api.OK {
			t.Error(n, e)
		}
	}
	if e := typing.Table(api.Sig{}, term.New()); e != api.OK {
		t.Error(e)
	}
	for at := 2; at < end; at++ {
		for s := range api.Own + api.MaxSorts {
			w := api.Table{Nodes: slices.Clone(u.Nodes)}
			w.Nodes[at].Sort = s
			want := api.ErrSort
			if s == u.Nodes[at].Sort {
				want = api.OK
			}
			if e := typing.Table(g, w); e != want {
				t.Error(at, s, e)
			}
		}
	}
	// under a signature that has less, or other functions
	for n := range g.Funs {
		less, _ := sig.Cut(g, 2, n, 0)
		if e := typing.Table(less, u); e != api.ErrSort {
			t.Error("less", n, e)
		}
		other := copied(g)
		other.Funs[n].Res = (other.Funs[n].Res + 1) % api.Own
		want := api.ErrSort
		if n == 5 { // which no node has
			want = api.OK
		}
		if e := typing.Table(other, u); e != want {
			t.Error("other", n, e)
		}
	}
	w := append(u.Nodes, app(7, api.Int))
	if e := typing.Table(g, api.Table{Nodes: w}); e != api.ErrSort {
		t.Error("a function that is not there", e)
	}
}

// P6.2: Make at its edges; ErrArg comes ahead of ErrSort.
func TestMake(t *testing.T) {
	g, u := sigma(), sorted()
	for i, c := range []struct {
		op   int8
		args []int
		f, n int
		sort int
		e    api.Errno
	}{
		{api.OpTrue, nil, 0, 0, api.Bool, api.OK},
		{api.OpNum, []int{}, 0, 0, api.Int, api.OK},
		{api.OpNum, nil, 0, api.Most, api.Int, api.OK},
		{api.OpNum, nil, 0, -api.Most, api.Int, api.OK},
		{api.OpNum, nil, 0, api.Most + 1, 0, api.ErrArg},
		{api.OpNum, nil, 0, -api.Most - 1, 0, api.ErrArg},
		{api.OpNum, nil, 1, 0, 0, api.ErrArg},
		{api.OpNum, []int{1}, 0, 0, 0, api.ErrArg},
		{api.OpTrue, nil, 0, 1, 0, api.ErrArg},
		{api.OpAdd, []int{x}, 0, api.Most, api.Int, api.OK},
		{api.OpAdd, []int{x}, 0, math.MinInt, 0, api.ErrArg},
		{api.OpAdd, []int{p}, 0, 1, 0, api.ErrSort},
		{api.OpAdd, []int{p}, 0, api.Most + 1, 0, api.ErrArg},
		{api.OpDiff, []int{x, 16}, 0, -api.Most, api.Bool, api.OK},
		{api.OpDiff, []int{x, 16}, 0, -api.Most - 1, 0, api.ErrArg},
		{api.OpDiff, []int{x, a}, 0, 0, 0, api.ErrSort},
		{api.OpLe, []int{x, x}, 0, 1, 0, api.ErrArg},
		{api.OpLe, []int{p, x}, 0, 1, 0, api.ErrArg},
		{api.OpLe, []int{p, x}, 0, 0, 0, api.ErrSort},
		{api.OpNot, []int{end - 1}, 0, 0, 0, api.ErrSort},
		{api.OpNot, []int{end}, 0, 0, 0, api.ErrArg},
		{api.OpNot, []int{-1}, 0, 0, 0, api.ErrArg},
		{api.OpNot, []int{math.MinInt}, 0, 0, 0, api.ErrArg},
		{api.OpNot, []int{math.MaxInt}, 0, 0, 0, api.ErrArg},
		{api.OpEq, []int{x, a}, 0, 0, 0, api.ErrSort},
		{api.OpEq, []int{x, end}, 0, 0, 0, api.ErrArg},
		{api.OpIte, []int{x, x, x}, 0, 0, 0, api.ErrSort},
		{api.OpIte, []int{p, x, x}, 0, 0, api.Int, api.OK},
		{api.OpIte, []int{p, x}, 0, 0, 0, api.ErrArg},
		{api.OpIte, []int{p, x, -1}, 0, 0, 0, api.ErrArg},
		{api.OpIte, []int{p, x, x, 0}, 0, 0, 0, api.ErrArg},
		{api.OpApp, nil, 0, 0, api.Int, api.OK},
		{api.OpApp, nil, 6, 0, 0, api.ErrSort},
		{api.OpApp, nil, 7, 0, 0, api.ErrSort},
		{api.OpApp, nil, 11, 0, 0, api.ErrSort},
		{api.OpApp, nil, 12, 0, 0, api.ErrArg},
		{api.OpApp, nil, -1, 0, 0, api.ErrArg},
		{api.OpApp, nil, math.MaxInt, 0, 0, api.ErrArg},
		{api.OpApp, nil, math.MinInt, 0, 0, api.ErrArg},
		{api.OpApp, nil, 0, 1, 0, api.ErrArg},
		{api.OpApp, nil, 7, 1, 0, api.ErrArg},
		{api.OpApp, []int{x}, 0, 0, 0, api.ErrSort},
		{api.OpApp, []int{x, 99}, 0, 0, 0, api.ErrArg},
		{api.OpApp, []int{x, a}, 5, 0, api.Bool, api.OK},
		{api.OpApp, []int{a, x}, 5, 0, 0, api.ErrSort},
		{api.OpApp, []int{x, b}, 5, 0, 0, api.ErrSort},
		{api.OpApp, []int{a, p, x}, 6, 0, api.Int, api.OK},
		{api.OpApp, []int{a, p, x, 0}, 6, 0, 0, api.ErrArg},
		{-1, nil, 0, 0, 0, api.ErrArg},
		{14, nil, 0, 0, 0, api.ErrArg},
		{math.MinInt8, []int{p}, 0, 0, 0, api.ErrArg},
	} {
		want := api.Node{}
		if c.e == api.OK {
			want = api.Node{Op: c.op, Len: int8(len(c.args)), Args: args(c.args...), Sort: c.sort, Fun: c.f, N: c.n}
		}
		if m, e := typing.Make(g, u, c.op, c.args, c.f, c.n); m != want || e != c.e {
			t.Error(i, m, e)
		}
	}
}

// P6.2: places that are far too many; numbers of them that would go round as a
// node's Len do not.
func TestMakeLong(t *testing.T) {
	g, u := sigma(), sorted()
	for op := math.MinInt8; op <= math.MaxInt8; op++ {
		for _, n := range []int{4, 5, 127, 128, 255, 256, 257, 258, 259, 260, 1 << 16} {
			for _, at := range []int{0, x, -1} {
				if m, e := typing.Make(g, u, int8(op), slices.Repeat([]int{at}, n), 0, 0); m != (api.Node{}) || e != api.ErrArg {
					t.Fatal(op, n, at, m, e)
				}
			}
		}
	}
}

// P6.2: a place that is none, as each of the Args of each kind.
func TestMakePlaces(t *testing.T) {
	g, u := sigma(), sorted()
	for _, n := range u.Nodes {
		for i := range n.Len {
			for _, at := range append([]int{end, end + 1}, far...) {
				l := slices.Clone(n.Args[:n.Len])
				l[i] = at
				if m, e := typing.Make(g, u, n.Op, l, n.Fun, n.N); m != (api.Node{}) || e != api.ErrArg {
					t.Error(n, i, at, m, e)
				}
			}
		}
		if m, e := typing.Make(g, u, n.Op, n.Args[:n.Len], n.Fun, n.N); m != n || e != api.OK {
			t.Error(n, m, e)
		}
	}
}

// R3, R4: what is handed in is as it was, spare room included, and nothing of
// it is in an answer, or kept.
func TestMemory(t *testing.T) {
	g, u := sigma(), sorted()
	room := append(u.Nodes, node(api.OpNot, api.Bool, 0), app(3, 3), app(2, 2))
	u.Nodes = room[:end]
	fun := append(g.Funs, api.Fun{Name: "spare"})
	g.Funs = fun[:len(g.Funs)]
	places := []int{x, a, 77, 78}
	was, wasRoom, wasFuns, wasPlaces := copied(g), slices.Clone(room), slices.Clone(fun), slices.Clone(places)
	sorts := []int{api.Int, api.Own, 50}
	for range 2 {
		m, e := typing.Make(g, u, api.OpApp, places[:2], 5, 0)
		if e != api.OK || m != app(5, api.Bool, x, a) {
			t.Error("Make", m, e)
		}
		m.Args[0], places[0] = 9, 9
		if n, _ := typing.Make(g, u, api.OpApp, []int{x, a}, 5, 0); n != app(5, api.Bool, x, a) || m.Args != args(9, a) {
			t.Error("kept", n, m)
		}
		places[0] = x
		typing.Make(g, u, api.OpApp, places, 5, 0)
		typing.Make(g, u, api.OpEq, places[:2], 0, 0)
		typing.Node(g, u, m)
		typing.Node(g, u, u.Nodes[x])
		typing.Table(g, u)
		if s, e := typing.App(g, 5, sorts[:2]); s != api.Bool || e != api.OK {
			t.Error("App", s, e)
		}
		typing.Op(api.OpEq, sorts[:2])
		typing.Op(api.OpIte, sorts)
	}
	if !sig.Same(g, was) || !slices.Equal(fun, wasFuns) || !slices.Equal(room, wasRoom) || !slices.Equal(places, wasPlaces) || !slices.Equal(sorts, []int{api.Int, api.Own, 50}) {
		t.Error("changed", g, room, places, sorts)
	}
	if !sexpr.Same(g.Macros[0].Body, sigma().Macros[0].Body) {
		t.Error("body changed")
	}
}

// A draw gives numbers that are alike each time.
type draw uint64

// below is a number from 0 to n - 1.
func (d *draw) below(n int) int {
	*d = *d*6364136223846793005 + 1442695040888963407
	return int(uint64(*d) >> 33 % uint64(n))
}

// P6.3: what Make made goes into a well sorted table, which stays so; and a node
// of another Sort is never one that may be.
func TestFollows(t *testing.T) {
	g, d := sigma(), draw(3)
	made := [api.OpApp + 1]int{}
	for range 150 {
		u := term.New()
		for range 60 {
			op := int8(d.below(int(api.OpApp) + 1))
			l := make([]int, max(count(op), 0))
			f, n := 0, 0
			switch op {
			case api.OpApp:
				f = d.below(len(g.Funs))
				l = make([]int, g.Funs[f].Len)
			case api.OpNum, api.OpAdd, api.OpDiff:
				n = d.below(9) - 4
			}
			for i := range l {
				l[i] = d.below(len(u.Nodes))
			}
			m, e := typing.Make(g, u, op, l, f, n)
			if e != api.OK {
				if e != api.ErrSort || m != (api.Node{}) {
					t.Fatal(u, op, l, f, n, m, e)
				}
				continue
			}
			made[op]++
			u = heldMade(t, g, u, m)
		}
	}
	for op, n := range made {
		if n < 20 {
			t.Error("too few of", op, n)
		}
	}
}

// heldMade is u with m, which Make made; both are well sorted.
func heldMade(t *testing.T, g api.Sig, u api.Table, m api.Node) api.Table {
	t.Helper()
	if e := typing.Node(g, u, m); e != api.OK {
		t.Fatal("Node", u, m, e)
	}
	o, at, e := term.Put(u, m, 1000)
	if e != api.OK || o.Nodes[at] != m {
		t.Fatal("Put", u, m, e)
	}
	if e := typing.Table(g, o); e != api.OK {
		t.Fatal("Table", u, m, e)
	}
	if again, e := typing.Make(g, o, m.Op, m.Args[:m.Len], m.Fun, m.N); again != m || e != api.OK {
		t.Fatal("again", u, m, again, e)
	}
	for s := range api.Own + api.MaxSorts {
		n := m
		n.Sort = s
		if e := typing.Node(g, u, n); (e == api.OK) != (s == m.Sort) {
			t.Fatal("two Sorts", u, n, e)
		}
	}
	return o
}
