package atoms_test

import (
	"math"
	"slices"
	"testing"

	"gantry/api"
	"gantry/atoms"
	"gantry/term"
)

const (
	own   = api.Own
	other = api.Own + 1
	last  = api.Own + api.MaxSorts - 1
	big   = 1 << 30
)

// Places of base().
const (
	x     = 2 + iota // an Int
	y                // an Int
	p                // a Bool
	q                // a Bool
	a                // of a sort of its own
	b                // of the same
	c                // of another
	d                // of the last one
	notP             // (not p)
	twice            // (not (not p))
	three            // (not (not (not p)))
	no               // (not true)
	andPQ
	orPQ
	xorPQ
	impPQ
	eqPQ
	eqXY
	eqAB
	eqCC
	eqDD
	itePQ
	iteXY
	iteAB
	leXY
	ltXY
	seven
	x1
	diffXY
	pX // a Bool, of x
	fX // an Int, of x
	hA // of a sort of its own, of a, b, and a
	notAnd
	end
)

// far are numbers that are no place of any table, and no literal of any.
var far = []int{math.MinInt, math.MinInt + 1, math.MinInt32, -big, -3, -2, -1, 1 << 20, 1<<20 + 1, big, big + 1, math.MaxInt32, math.MaxInt - 1, math.MaxInt}

func args(l ...int) (o [api.MaxArgs]int) {
	copy(o[:], l)
	return o
}

// of is a node of that kind and Sort.
func of(op int8, sort int, l ...int) api.Node {
	return api.Node{Op: op, Len: int8(len(l)), Args: args(l...), Sort: sort}
}

func app(fun, sort int, l ...int) api.Node {
	n := of(api.OpApp, sort, l...)
	n.Fun = fun
	return n
}

func number(n int) api.Node { return api.Node{Op: api.OpNum, Sort: api.Int, N: n} }

func plus(at, n int) api.Node {
	o := of(api.OpAdd, api.Int, at)
	o.N = n
	return o
}

func less(k, l, n int) api.Node {
	o := of(api.OpDiff, api.Bool, k, l)
	o.N = n
	return o
}

func not(at int) api.Node { return of(api.OpNot, api.Bool, at) }

func equal(k, l int) api.Node { return of(api.OpEq, api.Bool, k, l) }

// as is n with another Sort.
func as(sort int, n api.Node) api.Node {
	n.Sort = sort
	return n
}

// table is a table of True, Zero and those nodes.
func table(l ...api.Node) api.Table {
	return api.Table{Nodes: append([]api.Node{{Op: api.OpTrue}, number(0)}, l...)}
}

// upon is u with those nodes behind, in memory of its own.
func upon(u api.Table, l ...api.Node) api.Table {
	return api.Table{Nodes: slices.Concat(u.Nodes, l)}
}

// base is a table with a node of each kind.
func base() api.Table {
	return table(
		app(0, api.Int),
		app(1, api.Int),
		app(2, api.Bool),
		app(3, api.Bool),
		app(4, own),
		app(5, own),
		app(6, other),
		app(7, last),
		not(p),
		not(notP),
		not(twice),
		not(api.True),
		of(api.OpAnd, api.Bool, p, q),
		of(api.OpOr, api.Bool, p, q),
		of(api.OpXor, api.Bool, p, q),
		of(api.OpImp, api.Bool, p, q),
		equal(p, q),
		equal(x, y),
		equal(a, b),
		equal(c, c),
		equal(d, d),
		of(api.OpIte, api.Bool, p, q, notP),
		of(api.OpIte, api.Int, p, x, y),
		of(api.OpIte, own, p, a, b),
		of(api.OpLe, api.Bool, x, y),
		of(api.OpLt, api.Bool, x, y),
		number(7),
		plus(x, 1),
		less(x, y, 3),
		app(8, api.Bool, x),
		app(9, api.Int, x),
		app(10, own, a, b, a),
		not(andPQ),
	)
}

// strange are tables that may not be.
func strange() []api.Table {
	l := []api.Table{
		{},
		{Nodes: []api.Node{}},
		{Nodes: base().Nodes[:1]},
		{Nodes: base().Nodes[1:]},
		{Nodes: slices.Concat(base().Nodes[:x], base().Nodes[x+1:])},
	}
	for _, n := range []api.Node{
		number(7), // twice
		not(p),
		not(end), // of itself
		not(end + 1),
		not(-1),
		of(api.OpAnd, api.Bool, x, end+1),
		equal(math.MaxInt, p),
		equal(p, math.MinInt),
		of(api.OpIte, api.Bool, p, q, math.MaxInt),
		app(9, api.Bool, math.MaxInt),
		app(9, api.Bool, math.MinInt),
		app(api.MaxFuns, api.Bool),
		plus(x, api.Most+1),
		as(-1, not(q)),
		as(last+1, not(q)),
		of(api.OpAnd, api.Bool, p),
		of(api.OpApp+1, api.Bool),
		{Op: -1},
		{Op: math.MaxInt8},
		{Op: api.OpNot, Len: -1},
		{Op: api.OpApp, Len: 127},
	} {
		l = append(l, upon(base(), n))
	}
	u := base() // two that stand upon each other
	u.Nodes[notP], u.Nodes[twice] = not(twice), not(notP)
	return append(l, u)
}

// sound fails, unless u may be: of one that may not be nothing is told.
func sound(t *testing.T, u api.Table) {
	t.Helper()
	if e := term.Check(u); e != api.OK {
		t.Fatal(u, e)
	}
}

// both are the two literals of each of these nodes.
func both(ids ...int) (l []int) {
	for _, id := range ids {
		l = append(l, 2*id, 2*id+1)
	}
	return l
}

// P13.1: the numbers' names.
func TestNames(t *testing.T) {
	for want, k := range []int8{atoms.KnNone, atoms.KnTrue, atoms.KnNot, atoms.KnForm, atoms.KnEqual, atoms.KnInt, atoms.KnDiff, atoms.KnOrder, atoms.KnApp} {
		if int(k) != want {
			t.Error(want, k)
		}
	}
}

// P13.1: Make, at the bounds, past them, and below 0.
func TestMake(t *testing.T) {
	for _, c := range []struct{ node, lit int }{
		{0, 0}, {1, 2}, {7, 14}, {2000, 4000},
		{big - 1, 1<<31 - 2}, {big, 1 << 31}, {big + 1, 1<<31 + 2}, {math.MaxInt32, 1<<32 - 2},
		{1<<62 - 1, math.MaxInt - 1}, {1 << 62, math.MinInt}, {1<<62 + 1, math.MinInt + 2}, {math.MaxInt, -2},
		{-1, -2}, {-2, -4}, {-7, -14}, {-big, -1 << 31}, {-1 << 62, math.MinInt}, {-1<<62 - 1, math.MaxInt - 1}, {math.MinInt, 0},
	} {
		if l := atoms.Make(c.node, false); l != c.lit {
			t.Error(c, l)
		}
		if l := atoms.Make(c.node, true); l != c.lit+1 {
			t.Error("negated", c, l)
		}
	}
}

// P13.1: Node, Neg and Is, at the bounds, past them, and below 0.
func TestLiterals(t *testing.T) {
	for _, c := range []struct {
		lit, node, neg int
		is             bool
	}{
		{0, 0, 1, false}, {1, 0, 0, true}, {2, 1, 3, false}, {14, 7, 15, false}, {15, 7, 14, true},
		{big - 1, 1<<29 - 1, big - 2, true}, {big, 1 << 29, big + 1, false}, {big + 1, 1 << 29, big, true},
		{1 << 31, big, 1<<31 + 1, false}, {1<<31 + 1, big, 1 << 31, true},
		{math.MaxInt, 1<<62 - 1, math.MaxInt - 1, true}, {math.MaxInt - 1, 1<<62 - 1, math.MaxInt, false},
		{-1, -1, -2, true}, {-2, -1, -1, false}, {-3, -2, -4, true}, {-4, -2, -3, false},
		{math.MinInt, -1 << 62, math.MinInt + 1, false}, {math.MinInt + 1, -1 << 62, math.MinInt, true},
	} {
		if n, neg, is := atoms.Node(c.lit), atoms.Neg(c.lit), atoms.Is(c.lit); n != c.node || neg != c.neg || is != c.is {
			t.Error(c, n, neg, is)
		}
	}
}

// P13.4: Neg of Neg is the literal; a literal is its node's and its sign's.
func TestLiteralsGoBack(t *testing.T) {
	l := slices.Clone(far)
	for n := -3000; n < 3000; n++ {
		l = append(l, n, big+n, -big+n, math.MaxInt-3000+n, math.MinInt+3000+n)
	}
	for _, lit := range l {
		neg := atoms.Neg(lit)
		if atoms.Neg(neg) != lit || neg == lit || atoms.Is(neg) == atoms.Is(lit) || atoms.Node(neg) != atoms.Node(lit) {
			t.Fatal(lit, neg)
		}
		if atoms.Make(atoms.Node(lit), atoms.Is(lit)) != lit || atoms.Make(atoms.Node(lit), !atoms.Is(lit)) != neg {
			t.Fatal(lit)
		}
		if atoms.Neg(atoms.Make(lit, false)) != atoms.Make(lit, true) {
			t.Fatal("Make", lit)
		}
	}
}

// P13.1: each kind of node.
func TestKind(t *testing.T) {
	u := base()
	sound(t, u)
	want := make([]int8, end) // KnNone of all others
	for k, l := range [][]int{
		atoms.KnTrue:  {api.True},
		atoms.KnNot:   {notP, twice, three, no, notAnd},
		atoms.KnForm:  {andPQ, orPQ, xorPQ, impPQ, eqPQ, itePQ},
		atoms.KnEqual: {eqAB, eqCC, eqDD},
		atoms.KnInt:   {eqXY},
		atoms.KnDiff:  {diffXY},
		atoms.KnOrder: {leXY, ltXY},
		atoms.KnApp:   {p, q, pX},
	} {
		for _, id := range l {
			want[id] = int8(k)
		}
	}
	for id, k := range want {
		if o := atoms.Kind(u, id); o != k {
			t.Error(id, o, "not", k)
		}
	}
}

// P13.1: places that are none; tables that may not be.
func TestKindOfNone(t *testing.T) {
	for _, id := range append([]int{end, end + 1}, far...) {
		if k := atoms.Kind(base(), id); k != atoms.KnNone {
			t.Error(id, k)
		}
	}
	for i, u := range strange() {
		for id := -2; id < end+3; id++ {
			if k := atoms.Kind(u, id); k != atoms.KnNone {
				t.Error("strange", i, id, k)
			}
		}
	}
}

// P13.1: nodes that are not of Bool, whatever kind they are; of Bool ones that
// no kind of Bool nodes is; OpEqs and OpItes of several sorts.
func TestKindOfSorts(t *testing.T) {
	u := base()
	hold := func(n api.Node, want int8) {
		t.Helper()
		w := upon(u, n)
		sound(t, w)
		if k := atoms.Kind(w, end); k != want {
			t.Error(n, k, "not", want)
		}
	}
	for _, n := range u.Nodes {
		for s := api.Int; s <= last; s++ {
			if m := as(s, n); !slices.Contains(u.Nodes, m) {
				hold(m, atoms.KnNone)
			}
		}
	}
	hold(as(api.Bool, number(0)), atoms.KnNone)
	hold(as(api.Bool, number(7)), atoms.KnNone)
	hold(as(api.Bool, plus(x, 1)), atoms.KnNone)
	hold(as(api.Bool, plus(p, 1)), atoms.KnNone)
	for _, k := range [][2]int{{p, x}, {x, p}, {a, x}, {x, a}, {p, a}, {a, p}, {a, c}, {c, a}, {d, c}} {
		hold(equal(k[0], k[1]), atoms.KnNone)
	}
	for _, k := range [][3]int{{p, x, y}, {p, a, b}, {p, q, x}, {p, x, q}, {x, p, q}, {x, x, x}} {
		hold(of(api.OpIte, api.Bool, k[0], k[1], k[2]), atoms.KnNone)
	}
	hold(of(api.OpIte, api.Bool, p, p, p), atoms.KnForm)
	hold(of(api.OpIte, api.Bool, api.True, no, leXY), atoms.KnForm)
	// of the others no Arg is asked
	hold(not(x), atoms.KnNot)
	hold(of(api.OpAnd, api.Bool, x, a), atoms.KnForm)
	hold(of(api.OpOr, api.Bool, x, a), atoms.KnForm)
	hold(of(api.OpXor, api.Bool, x, a), atoms.KnForm)
	hold(of(api.OpImp, api.Bool, x, a), atoms.KnForm)
	hold(of(api.OpLe, api.Bool, p, a), atoms.KnOrder)
	hold(of(api.OpLt, api.Bool, p, a), atoms.KnOrder)
	hold(less(p, a, 3), atoms.KnDiff)
	hold(app(8, api.Bool, p, a, c), atoms.KnApp)
}

// isLit asks for the literal of the node at id.
func isLit(t *testing.T, u api.Table, id, want int) {
	t.Helper()
	if l, e := atoms.Lit(u, id); l != want || e != api.OK {
		t.Error(id, l, e, "not", want)
	}
}

// noLit asks for an error.
func noLit(t *testing.T, u api.Table, id int, want api.Errno) {
	t.Helper()
	if l, e := atoms.Lit(u, id); l != 0 || e != want {
		t.Error(id, l, e, "not", want)
	}
}

// P13.2: the literal of a node, left without its OpNots.
func TestLit(t *testing.T) {
	u := base()
	for _, id := range []int{api.True, p, q, andPQ, orPQ, xorPQ, impPQ, eqPQ, eqXY, eqAB, eqCC, eqDD, itePQ, leXY, ltXY, diffXY, pX} {
		isLit(t, u, id, 2*id)
		w, at := withNot(u, id)
		isLit(t, w, at, 2*id+1)
	}
	isLit(t, u, notP, 2*p+1)
	isLit(t, u, twice, 2*p)
	isLit(t, u, three, 2*p+1)
	isLit(t, u, no, 1)
	isLit(t, u, notAnd, 2*andPQ+1)
	isLit(t, upon(u, as(api.Bool, number(7))), end, 2*end) // of Bool, as its Sort says
}

// withNot is u with the OpNot of the node at id, and where that is.
func withNot(u api.Table, id int) (api.Table, int) {
	n := not(id)
	if at, ok := term.Find(u, n); ok {
		return u, at
	}
	return upon(u, n), len(u.Nodes)
}

// P13.2: the chapter's example.
func TestLitExample(t *testing.T) {
	u := table(app(0, api.Int), app(1, api.Int), app(2, api.Int), app(3, api.Int), app(4, api.Int), app(5, api.Bool), not(7))
	isLit(t, u, 7, 14)
	isLit(t, u, 8, 15)
}

// P13.2: the errors, in their order.
func TestLitErrors(t *testing.T) {
	u := base()
	for _, id := range append([]int{end, end + 1}, far...) {
		noLit(t, u, id, api.ErrArg)
	}
	for _, id := range []int{api.Zero, x, y, a, b, c, d, iteXY, iteAB, seven, x1, fX, hA} {
		noLit(t, u, id, api.ErrSort)
	}
	for _, w := range strange() {
		for _, id := range append([]int{0, 1, x, p, notP, twice, end - 1, end, end + 1}, far...) {
			noLit(t, w, id, api.ErrArg)
		}
	}
}

// P13.2: what OpNots come to must be of Bool, and the one that is asked, but not
// those between.
func TestLitBetween(t *testing.T) {
	const (
		notX    = end + iota
		notNotX // (not (not x))
		int1    // (not q), an Int
		ofInt   // (not int1), a Bool
		own2    // (not ofInt), of a sort of its own
		ofOwn   // (not own2), a Bool
		int3    // (not (not x)), an Int
		ofInt3  // (not int3)
		andInt  // (and p q), an Int
		notAnd2 // (not andInt)
	)
	u := upon(base(), not(x), not(notX), as(api.Int, not(q)), not(int1), as(own, not(ofInt)), not(own2),
		as(api.Int, not(notX)), not(int3), as(api.Int, of(api.OpAnd, api.Bool, p, q)), not(andInt))
	sound(t, u)
	for _, id := range []int{notX, notNotX, int1, own2, int3, ofInt3, andInt, notAnd2} {
		noLit(t, u, id, api.ErrSort)
	}
	isLit(t, u, ofInt, 2*q)
	isLit(t, u, ofOwn, 2*q)
	for _, id := range []int{notX, notNotX, ofInt, ofOwn, ofInt3, notAnd2} {
		if k := atoms.Kind(u, id); k != atoms.KnNot {
			t.Error(id, k)
		}
	}
	for _, id := range []int{int1, own2, int3, andInt} {
		if k := atoms.Kind(u, id); k != atoms.KnNone {
			t.Error(id, k)
		}
	}
	if l := atoms.Bools(u); !slices.Equal(l, atoms.Bools(base())) {
		t.Error(l)
	}
}

// P13.2, P13.4: a chain of OpNots, each one's literal the Neg of the next one's;
// what they come to is told to euf, if the last one is an argument.
func TestLong(t *testing.T) {
	const many = 100000
	u := table(less(api.Zero, api.Zero, 1))
	for id := range many {
		u.Nodes = append(u.Nodes, not(id+2))
	}
	isLit(t, u, many+2, 2*2+many%2)
	isLit(t, u, many+1, 2*2+(many-1)%2)
	if l := atoms.Bools(u); !slices.Equal(l, []int{0, 2}) {
		t.Error(len(l))
	}
	l := slices.Repeat([]int{4, 5, 0}, many)
	if o := atoms.Euf(u, l); len(o) != 0 {
		t.Error(len(o))
	}
	if o := atoms.Idl(u, l); !slices.Equal(o, slices.Repeat([]int{4, 5}, many)) {
		t.Error(len(o))
	}
	for id := range many {
		u.Nodes = append(u.Nodes, app(0, api.Int, many+2-id%2, id+2))
	}
	if o := atoms.Euf(u, l); !slices.Equal(o, slices.Repeat([]int{4, 5}, many)) {
		t.Error(len(o))
	}
}

// bools are those of base().
func bools() []int {
	return []int{api.True, p, q, andPQ, orPQ, xorPQ, impPQ, eqPQ, eqXY, eqAB, eqCC, eqDD, itePQ, leXY, ltXY, diffXY, pX}
}

// P13.2: the Bool nodes but OpNot, rising.
func TestBools(t *testing.T) {
	hold := func(u api.Table, want ...int) {
		t.Helper()
		sound(t, u)
		if l := atoms.Bools(u); !slices.Equal(l, want) {
			t.Error(l, "not", want)
		}
	}
	hold(base(), bools()...)
	for n := 2; n <= end; n++ {
		var want []int
		for _, id := range bools() {
			if id < n {
				want = append(want, id)
			}
		}
		hold(api.Table{Nodes: base().Nodes[:n]}, want...)
	}
	hold(term.New(), 0) // no Bool but True, which each one has
	hold(table(app(0, api.Int), number(3), plus(2, 1), app(1, own)), 0)
	hold(table(not(0), not(2), not(3)), 0)
	hold(table(as(api.Int, app(0, api.Bool)), as(own, equal(0, 0)), as(api.Int, not(0))), 0)
	hold(table(as(api.Bool, number(0)), as(api.Bool, plus(1, 3)), not(1), of(api.OpAnd, api.Bool, 1, 1)), 0, 2, 3, 5)
	for i, u := range strange() {
		if l := atoms.Bools(u); len(l) != 0 {
			t.Error("strange", i, l)
		}
	}
}

// P13.2: whether literals may be.
func TestMay(t *testing.T) {
	u := base()
	may := func(w api.Table, want bool, l ...int) {
		t.Helper()
		if atoms.May(w, l) != want {
			t.Error(l, !want)
		}
	}
	all := both(bools()...)
	may(u, true)
	may(u, true, []int{}...)
	may(term.New(), true)
	may(term.New(), true, 0, 1, 1, 0)
	may(term.New(), false, 2)
	may(u, true, all...)
	may(u, true, slices.Concat(all, all, []int{2*p + 1, 2 * p, 2 * p})...)
	slices.Reverse(all)
	may(u, true, all...)
	for lit := -9; lit < 2*end+9; lit++ {
		is := lit >= 0 && slices.Contains(bools(), lit/2)
		may(u, is, lit)
		may(u, is, slices.Concat(all, []int{lit})...)
		may(u, is, slices.Concat([]int{lit}, all)...)
		may(u, is, slices.Concat(all, []int{lit}, all)...)
	}
	for _, lit := range far {
		may(u, false, lit)
		may(u, false, slices.Concat(all, []int{lit})...)
	}
	for i, w := range strange() {
		if atoms.May(w, nil) || atoms.May(w, []int{}) || atoms.May(w, []int{0}) || atoms.May(w, []int{2 * p}) || atoms.May(w, all) || atoms.May(w, far) {
			t.Error("strange", i)
		}
	}
}

// tells asks what is told to each theory of l.
func tells(t *testing.T, u api.Table, l, euf, idl []int) {
	t.Helper()
	sound(t, u)
	if o := atoms.Euf(u, l); !slices.Equal(o, euf) {
		t.Error("Euf", l, o, "not", euf)
	}
	if o := atoms.Idl(u, l); !slices.Equal(o, idl) {
		t.Error("Idl", l, o, "not", idl)
	}
}

// P13.3: each kind of node.
func TestTold(t *testing.T) {
	u := base()
	euf := []int{p, q, eqXY, eqAB, eqCC, eqDD, pX}
	for _, id := range bools() {
		for _, lit := range both(id) {
			want := [2][]int{}
			if slices.Contains(euf, id) {
				want[0] = []int{lit}
			}
			if id == diffXY {
				want[1] = []int{lit}
			}
			tells(t, u, []int{lit}, want[0], want[1])
			tells(t, u, []int{lit, lit}, append(want[0], want[0]...), append(want[1], want[1]...))
		}
	}
	tells(t, u, both(bools()...), both(euf...), both(diffXY))
	tells(t, u, nil, nil, nil)
	tells(t, u, []int{}, nil, nil)
	tells(t, term.New(), []int{0, 1}, nil, nil) // True, which stands behind no function's Len
}

// P13.3: arguments of an OpApp, whatever kind they are, and what they come to.
func TestToldArguments(t *testing.T) {
	u := base()
	// beside those that are told as they are
	for _, id := range []int{api.True, andPQ, orPQ, xorPQ, impPQ, eqPQ, itePQ, leXY, ltXY, diffXY} {
		var idl []int
		if id == diffXY {
			idl = both(id)
		}
		w := u
		at := id // id, its OpNot, that one's, ..
		for range 5 {
			for _, n := range []api.Node{
				app(11, api.Bool, at), app(11, api.Int, at), app(11, own, at), app(11, last, at, x),
				app(11, api.Int, x, at), app(11, own, y, x, at), app(11, own, at, at, at),
			} {
				v := upon(w, n)
				tells(t, v, both(id), both(id), idl)
				tells(t, v, []int{2 * id}, []int{2 * id}, idl[:len(idl)/2])
				tells(t, v, both(bools()...), eufWith(id), both(diffXY))
			}
			// what has it as an Arg, and is no OpNot, hides it
			for _, n := range []api.Node{of(api.OpAnd, api.Bool, at, at), equal(at, at), of(api.OpIte, api.Bool, at, at, at), of(api.OpOr, api.Bool, at, p)} {
				v := upon(w, n)
				tells(t, upon(v, app(11, api.Bool, len(w.Nodes))), both(id, len(w.Nodes)), both(len(w.Nodes)), idl)
			}
			w, at = withNot(w, at)
		}
		tells(t, w, both(bools()...), eufWith(), both(diffXY))
	}
}

// eufWith are the literals of base()'s that are told to euf, if those are
// arguments.
func eufWith(l ...int) (o []int) {
	for _, id := range bools() {
		if slices.Contains(l, id) || slices.Contains([]int{p, q, eqXY, eqAB, eqCC, eqDD, pX}, id) {
			o = append(o, both(id)...)
		}
	}
	return o
}

// P13.3: what stands within an argument is not told with it, but below OpNots,
// whatever Sorts these have.
func TestToldWithin(t *testing.T) {
	const (
		fIte    = end + iota // of Ites, which have p, x, a as Args
		fEq                  // of an OpEq
		notLe                // (not (<= x y)), an Int
		fNotLe               // of it
		ltInt                // (< x x), an Int
		fLt                  // of it; a Bool
		andXX                // (and x x)
		notLt                // (not (< x y))
		intNot               // (not (not (< x y))), of a sort of its own
		notNot               // the OpNot of it
		fNotNot              // of it
	)
	u := upon(base(),
		app(11, own, iteXY, hA), app(11, own, eqPQ, api.True),
		as(api.Int, not(leXY)), app(11, api.Int, notLe),
		as(api.Int, of(api.OpLt, api.Bool, x, x)), app(11, api.Bool, ltInt, ltInt, ltInt),
		of(api.OpAnd, api.Bool, x, x),
		not(ltXY), as(own, not(notLt)), not(intNot), app(11, last, x, notNot),
	)
	tells(t, u, both(api.True, eqPQ, leXY, andPQ, itePQ, fLt, andXX), both(api.True, eqPQ, leXY, fLt), nil)
	tells(t, u, both(ltXY, andXX), both(ltXY), nil)
	for _, lit := range both(fIte, fEq, notLe, fNotLe, ltInt, notLt, intNot, notNot, fNotNot) {
		tells(t, u, []int{lit}, nil, nil)
		tells(t, u, []int{2 * leXY, lit}, nil, nil)
	}
	// OpEqs of several sorts are told as arguments alone
	w := upon(base(), equal(p, x), equal(x, p), equal(a, c), app(11, own, end+1))
	tells(t, w, both(end, end+1, end+2), both(end+1), nil)
}

// P13.3, P13.4: what is told comes in the literals' order, as often as there.
func TestToldOrder(t *testing.T) {
	u := upon(base(), app(11, own, notAnd, diffXY))
	l := []int{2*pX + 1, 2 * andPQ, 2*diffXY + 1, 1, 2 * eqAB, 2 * leXY, 2*andPQ + 1, 2 * p, 2 * diffXY, 2*pX + 1, 2 * diffXY, 0, 2*eqXY + 1}
	tells(t, u, l,
		[]int{2*pX + 1, 2 * andPQ, 2*diffXY + 1, 2 * eqAB, 2*andPQ + 1, 2 * p, 2 * diffXY, 2*pX + 1, 2 * diffXY, 2*eqXY + 1},
		[]int{2*diffXY + 1, 2 * diffXY, 2 * diffXY})
}

// P13.3: none, unless May.
func TestToldNone(t *testing.T) {
	u := upon(base(), app(11, own, notAnd))
	good := both(p, andPQ, diffXY)
	tells(t, u, good, both(p, andPQ), both(diffXY))
	bad := append([]int{2 * end, 2*end + 1, 2*end + 2, 2 * notP, 2*notP + 1, 2 * twice, 2*no + 1, 2 * api.Zero, 2*x + 1, 2 * a, 2 * fX, 2 * hA, 2 * iteXY}, far...)
	for _, lit := range bad {
		for at := range len(good) + 1 {
			tells(t, u, slices.Insert(slices.Clone(good), at, lit), nil, nil)
		}
		tells(t, u, []int{lit}, nil, nil)
	}
	for i, w := range strange() {
		if len(atoms.Euf(w, good)) != 0 || len(atoms.Idl(w, good)) != 0 || len(atoms.Euf(w, nil)) != 0 || len(atoms.Idl(w, []int{0})) != 0 {
			t.Error("strange", i)
		}
	}
}

// P13.4: the literals of a node and of its OpNot are each other's Neg.
func TestNegOfNot(t *testing.T) {
	u := base()
	for id := range end {
		l, e := atoms.Lit(u, id)
		w, at := withNot(u, id)
		neg, ne := atoms.Lit(w, at)
		if e != ne || e == api.OK && (neg != atoms.Neg(l) || l != atoms.Neg(neg)) {
			t.Error(id, l, e, neg, ne)
		}
		if bool := u.Nodes[id].Sort == api.Bool; bool != (e == api.OK) {
			t.Error(id, e)
		}
	}
}

// R3, R4: what is handed in is as it was, spare room included, and nothing of it
// is in an answer, or kept.
func TestMemory(t *testing.T) {
	room := append(upon(base(), app(11, own, notAnd)).Nodes, not(q), not(x), number(9))
	u := api.Table{Nodes: room[:end+1]}
	rowRoom := append(both(p, andPQ, diffXY), 71, 72, 73)
	l := rowRoom[:6]
	wasRoom, wasRow := slices.Clone(room), slices.Clone(rowRoom)
	for range 2 {
		answers := [][]int{atoms.Bools(u), atoms.Euf(u, l), atoms.Idl(u, l), atoms.Euf(u, l[:2]), atoms.Idl(u, l[4:]), atoms.Bools(u)}
		for id := range end {
			atoms.Kind(u, id)
			atoms.Lit(u, id)
		}
		if !atoms.May(u, l) || atoms.May(u, rowRoom) {
			t.Error("May")
		}
		for i, o := range answers {
			kept := [][]int{}
			for _, w := range answers {
				kept = append(kept, slices.Clone(w))
			}
			o = o[:cap(o)]
			for at := range o {
				o[at] = -5
			}
			for j, w := range answers {
				if j != i && !slices.Equal(w, kept[j]) {
					t.Error("shared", i, j)
				}
			}
			if !slices.Equal(room, wasRoom) || !slices.Equal(rowRoom, wasRow) {
				t.Fatal("changed", i)
			}
		}
	}
	o := atoms.Euf(u, l)
	for i := range l {
		l[i] = 0
	}
	if !slices.Equal(o, both(p, andPQ)) {
		t.Error("changed with what was handed in", o)
	}
	copy(l, wasRow)
	u.Nodes[end] = app(11, own, x)
	if o := atoms.Euf(u, l); !slices.Equal(o, both(p)) {
		t.Error("kept", o)
	}
}
