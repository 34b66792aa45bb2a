package shape_test

import (
	"maps"
	"math"
	"slices"
	"testing"

	"gantry/api"
	"gantry/core"
	"gantry/shape"
	"gantry/term"
)

const (
	most  = api.Most
	own   = api.Own
	other = api.Own + 1
	last  = api.Own + api.MaxSorts - 1
)

// Places of base().
const (
	x     = 2 + iota // an Int
	y                // an Int
	p                // a Bool
	q                // a Bool
	r                // a Bool
	a                // of a sort of its own
	b                // of the same
	d                // of the last one
	d2               // of the same
	notP             // (not p)
	notQ             // (not q)
	twice            // (not (not p))
	three            // (not (not (not p)))
	no               // (not true)
	andPQ
	orPQ
	eqPQ
	itePQR
	iteXY // (ite p x y)
	toX   // iteXY - x <= 0
	fromX // x - iteXY <= 0
	toY   // iteXY - y <= 0
	fromY // y - iteXY <= 0
	iteAB // (ite p a b)
	isA   // (= a iteAB)
	isB   // (= b iteAB)
	iteDD // (ite q d d2)
	isD   // (= d iteDD)
	isD2  // (= d2 iteDD)
	xorPQ
	impPQ
	eqXY
	eqAB
	eqDD
	leXY
	ltXY
	seven
	x1
	diffXY
	pX // a Bool, of x
	fP // an Int, of p
	hA // of a sort of its own, of a, p and x
	end
)

// far are numbers that are no place of any table, and no literal of any.
var far = []int{math.MinInt, math.MinInt + 1, math.MinInt32, -3, -2, -1, 1 << 20, 1<<20 + 1, math.MaxInt32, math.MaxInt - 1, math.MaxInt}

func args(l ...int) (o [api.MaxArgs]int) {
	copy(o[:], l)
	return o
}

// of is a node of that kind and Sort.
func of(op int8, sort int, l ...int) api.Node {
	return api.Node{Op: op, Len: int8(len(l)), Args: args(l...), Sort: sort}
}

func app(fun, sort int, l ...int) api.Node {
	n := of(api.OpApp, sort, l...)
	n.Fun = fun
	return n
}

func number(n int) api.Node { return api.Node{Op: api.OpNum, Sort: api.Int, N: n} }

func plus(at, n int) api.Node {
	o := of(api.OpAdd, api.Int, at)
	o.N = n
	return o
}

func less(k, l, n int) api.Node {
	o := of(api.OpDiff, api.Bool, k, l)
	o.N = n
	return o
}

func not(at int) api.Node { return of(api.OpNot, api.Bool, at) }

func and(k, l int) api.Node { return of(api.OpAnd, api.Bool, k, l) }

func or(k, l int) api.Node { return of(api.OpOr, api.Bool, k, l) }

func equal(k, l int) api.Node { return of(api.OpEq, api.Bool, k, l) }

func ite(sort, i, k, l int) api.Node { return of(api.OpIte, sort, i, k, l) }

// as is n with another Sort.
func as(sort int, n api.Node) api.Node {
	n.Sort = sort
	return n
}

// table is a table of True, Zero and those nodes.
func table(l ...api.Node) api.Table {
	return api.Table{Nodes: append([]api.Node{{Op: api.OpTrue}, number(0)}, l...)}
}

// upon is u with those nodes behind, in memory of its own.
func upon(u api.Table, l ...api.Node) api.Table {
	return api.Table{Nodes: slices.Concat(u.Nodes, l)}
}

// with is u with n at that place, in memory of its own.
func with(u api.Table, at int, n api.Node) api.Table {
	o := upon(u)
	o.Nodes[at] = n
	return o
}

// base is a table with a node of each kind, all of whose clauses are there.
func base() api.Table {
	return table(
		app(0, api.Int),
		app(1, api.Int),
		app(2, api.Bool),
		app(3, api.Bool),
		app(4, api.Bool),
		app(5, own),
		app(6, own),
		app(7, last),
		app(8, last),
		not(p),
		not(q),
		not(notP),
		not(twice),
		not(api.True),
		and(p, q),
		or(p, q),
		equal(p, q),
		ite(api.Bool, p, q, r),
		ite(api.Int, p, x, y),
		less(iteXY, x, 0),
		less(x, iteXY, 0),
		less(iteXY, y, 0),
		less(y, iteXY, 0),
		ite(own, p, a, b),
		equal(a, iteAB),
		equal(b, iteAB),
		ite(last, q, d, d2),
		equal(d, iteDD),
		equal(d2, iteDD),
		of(api.OpXor, api.Bool, p, q),
		of(api.OpImp, api.Bool, p, q),
		equal(x, y),
		equal(a, b),
		equal(d, d),
		of(api.OpLe, api.Bool, x, y),
		of(api.OpLt, api.Bool, x, y),
		number(7),
		plus(x, 1),
		less(x, y, 3),
		app(9, api.Bool, x),
		app(10, api.Int, p),
		app(11, own, a, p, x),
	)
}

// strange are tables that may not be.
func strange() []api.Table {
	l := []api.Table{
		{},
		{Nodes: []api.Node{}},
		{Nodes: base().Nodes[:1]},
		{Nodes: base().Nodes[1:]},
		{Nodes: slices.Concat(base().Nodes[:x], base().Nodes[x+1:])},
		with(base(), seven, number(0)), // Zero twice
	}
	for _, n := range []api.Node{
		number(7), // twice
		not(p),
		not(end), // of itself
		not(end + 1),
		not(-1),
		and(x, end+1),
		or(math.MaxInt, p),
		equal(p, math.MinInt),
		ite(api.Bool, p, q, math.MaxInt),
		ite(api.Int, p, math.MinInt, x),
		ite(own, end, a, b),
		plus(x, most+1),
		less(x, y, -most-1),
		app(api.MaxFuns, api.Bool),
		as(-1, and(q, p)),
		as(last+1, and(q, p)),
		of(api.OpAnd, api.Bool, p),
		of(api.OpIte, api.Bool, p, q),
		of(api.OpApp+1, api.Bool),
		{Op: -1},
		{Op: math.MaxInt8},
		{Op: api.OpNot, Len: -1},
		{Op: api.OpIte, Len: 127},
	} {
		l = append(l, upon(base(), n))
	}
	u := base() // two that stand upon each other
	u.Nodes[notP], u.Nodes[twice] = not(twice), not(notP)
	return append(l, u)
}

// pos and neg are a node's literals.
func pos(id int) int { return 2 * id }
func neg(id int) int { return 2*id + 1 }

// row is those literals, in order, twins once.
func row(l ...int) []int {
	set := map[int]bool{}
	for _, lit := range l {
		set[lit] = true
	}
	return slices.Sorted(maps.Keys(set))
}

func sameRows(k, l [][]int) bool {
	return slices.EqualFunc(k, l, slices.Equal[[]int])
}

// rises tells whether c has a literal, and each is above the one ahead.
func rises(c []int) bool {
	for i := 1; i < len(c); i++ {
		if c[i-1] >= c[i] {
			return false
		}
	}
	return len(c) > 0 && c[0] >= 0
}

// sound fails, unless u may be: of one that may not be nothing is told.
func sound(t *testing.T, u api.Table) {
	t.Helper()
	if e := term.Check(u); e != api.OK {
		t.Fatal(u, e)
	}
}

// has asks for the clauses of the node at id, by Of, Count and Is.
func has(t *testing.T, u api.Table, id int, want ...[]int) {
	t.Helper()
	sound(t, u)
	l, e := shape.Of(u, id)
	if !sameRows(l, want) || e != api.OK {
		t.Error(id, u.Nodes[id], l, e, "not", want)
	}
	if n := shape.Count(u, id); n != len(want) {
		t.Error(id, n, "not", len(want))
	}
	for _, c := range want {
		if !rises(c) || !shape.Is(u, id, c) {
			t.Error(id, c, "is none")
		}
	}
	if shape.Is(u, id, nil) || shape.Is(u, id, []int{}) {
		t.Error(id, "the empty one")
	}
}

// fails asks for ErrArg, and for nothing beside it, also of All.
func fails(t *testing.T, u api.Table, id int) {
	t.Helper()
	if l, e := shape.Of(u, id); l != nil || e != api.ErrArg {
		t.Error(id, l, e)
	}
	if n := shape.Count(u, id); n != 0 {
		t.Error(id, n)
	}
	for _, c := range [][]int{nil, {}, {0}, {-1}, {-2, -1}, {pos(id)}, {neg(id)}, {neg(id), pos(p)}, row(neg(p), pos(toX)), row(neg(p), pos(isA)), row(pos(id), neg(p), neg(q))} {
		if shape.Is(u, id, c) {
			t.Error(id, c)
		}
	}
	if id < 0 || id >= len(u.Nodes) {
		return
	}
	if l, e := shape.All(u); l != nil || e != api.ErrArg {
		t.Error("All", id, l, e)
	}
}

// P14.1: each kind of node that has clauses, in the chapter's order.
func TestOf(t *testing.T) {
	u := base()
	has(t, u, api.True, row(pos(api.True)))
	has(t, u, andPQ, row(neg(andPQ), pos(p)), row(neg(andPQ), pos(q)), row(pos(andPQ), neg(p), neg(q)))
	has(t, u, orPQ, row(pos(orPQ), neg(p)), row(pos(orPQ), neg(q)), row(neg(orPQ), pos(p), pos(q)))
	has(t, u, eqPQ, row(neg(eqPQ), neg(p), pos(q)), row(neg(eqPQ), pos(p), neg(q)), row(pos(eqPQ), pos(p), pos(q)), row(pos(eqPQ), neg(p), neg(q)))
	has(t, u, itePQR, row(neg(itePQR), neg(p), pos(q)), row(neg(itePQR), pos(p), pos(r)), row(pos(itePQR), neg(p), neg(q)), row(pos(itePQR), pos(p), neg(r)))
	has(t, u, iteXY, row(neg(p), pos(toX)), row(neg(p), pos(fromX)), row(pos(p), pos(toY)), row(pos(p), pos(fromY)))
	has(t, u, iteAB, row(neg(p), pos(isA)), row(pos(p), pos(isB)))
	has(t, u, iteDD, row(neg(q), pos(isD)), row(pos(q), pos(isD2)))
}

// P14.1: each kind of node that has none.
func TestOfNone(t *testing.T) {
	u := base()
	some := []int{api.True, andPQ, orPQ, eqPQ, itePQR, iteXY, iteAB, iteDD}
	for id := range end {
		if !slices.Contains(some, id) {
			has(t, u, id)
		}
	}
	if n := end - len(some); n != 36 {
		t.Error(n)
	}
}

// P14.1: the chapter's example.
func TestExample(t *testing.T) {
	u := table(app(0, api.Int), app(0, api.Bool), app(1, api.Int), app(1, api.Bool), app(2, api.Bool), and(3, 5))
	has(t, u, 7, []int{6, 15}, []int{10, 15}, []int{7, 11, 14})
}

// P14.1: a table that may not be; places that are none.
func TestOfErrors(t *testing.T) {
	for _, id := range append([]int{end, end + 1}, far...) {
		fails(t, base(), id)
		fails(t, term.New(), id)
	}
	fails(t, term.New(), 2)
	for i, u := range strange() {
		if term.Check(u) == api.OK {
			t.Fatal("not strange", i)
		}
		for _, id := range append([]int{0, 1, p, andPQ, iteXY, iteAB, seven, end - 1, end}, far...) {
			fails(t, u, id)
		}
	}
}

// connectives are a node of each kind that is a connective of Bools, of those
// Args; each has its number of Args.
func connectives(i, k, l int) []api.Node {
	return []api.Node{and(i, k), or(i, k), equal(i, k), ite(api.Bool, i, k, l)}
}

// P14.1: a node's own literal is an error, if its Sort is not Bool.
func TestOwnLiteral(t *testing.T) {
	for s := api.Int; s <= last; s++ {
		for _, n := range connectives(q, p, r)[:3] {
			u := upon(base(), as(s, n))
			sound(t, u)
			fails(t, u, end)
		}
	}
	// of an OpIte it tells what it is of, and that is not so
	for s := api.Int; s <= last; s++ {
		u := upon(base(), ite(s, q, p, r))
		sound(t, u)
		fails(t, u, end)
	}
	// those that have no clauses have none to ask for
	for _, n := range []api.Node{
		not(r), of(api.OpXor, api.Bool, q, p), of(api.OpImp, api.Bool, q, p), equal(y, x), equal(b, a),
		of(api.OpLe, api.Bool, y, x), of(api.OpLt, api.Bool, y, x), number(8), plus(y, 1), less(y, x, 3), app(0, own, p),
	} {
		for s := api.Bool; s <= last; s++ {
			has(t, upon(base(), as(s, n)), end)
		}
	}
}

// P14.1: an Arg's literal is an error, if its Sort is not Bool, or that of what
// it comes to.
func TestArgLiteral(t *testing.T) {
	const (
		notX    = end + iota // (not x), a Bool
		notNotX              // (not (not x)), a Bool
		intNot               // (not r), an Int
		ownAnd               // (and p q), of a sort of its own
		notAnd               // (not ownAnd), a Bool
		from                 // behind these
	)
	u := upon(base(), not(x), not(notX), as(api.Int, not(r)), as(own, of(api.OpXor, api.Bool, p, q)), not(ownAnd))
	sound(t, u)
	for _, bad := range []int{notX, notNotX, notAnd, api.Zero, x, a, d, seven, fP, iteXY, iteAB, intNot, ownAnd} {
		ill := u.Nodes[bad].Sort != api.Bool
		for i := range api.MaxArgs {
			for _, n := range connectives(r, twice, notQ) {
				if i >= int(n.Len) || n.Op == api.OpEq && ill { // which is not of Bool
					continue
				}
				n.Args[i] = bad
				w := upon(u, n)
				sound(t, w)
				fails(t, w, from)
			}
		}
	}
	for i := range 3 {
		n := connectives(r, twice, notQ)[i]
		n.Args = args(notX, notX)
		fails(t, upon(u, n), from)
	}
	// what an OpNot comes to counts, not what is between
	w := upon(u, not(intNot), and(from, from))
	has(t, w, from+1, row(neg(from+1), pos(r)), row(neg(from+1), pos(r)), row(pos(from+1), neg(r)))
}

// P14.1: an OpEq of several sorts is none of Bool; nor is one of others.
func TestEqualOfOthers(t *testing.T) {
	for _, k := range [][2]int{{p, x}, {x, p}, {p, a}, {a, p}, {x, a}, {a, d}, {x, x}, {a, a}, {y, x}, {b, a}, {d2, d}} {
		for _, s := range []int{api.Bool, api.Int, own, last} {
			has(t, upon(base(), as(s, equal(k[0], k[1]))), end)
		}
	}
}

// P14.1: of OpTrue no literal is asked: it has a clause, whatever its Sort is.
func TestTrues(t *testing.T) {
	l := []api.Node{}
	for s := api.Int; s <= last; s++ {
		l = append(l, as(s, api.Node{Op: api.OpTrue}))
	}
	u := upon(base(), l...)
	for i := range l {
		has(t, u, end+i, []int{pos(end + i)})
	}
	fails(t, upon(u, and(p, end)), end+len(l)) // but of others it is no literal
}

// P14.1: OpNots about Args are left out, also where there are several.
func TestNots(t *testing.T) {
	u := upon(base(), and(notP, twice), or(three, notQ), equal(no, three), ite(api.Bool, notP, twice, no), ite(api.Bool, three, api.True, notQ),
		not(end), not(end+5), and(end+6, end+5))
	id := end
	has(t, u, id, row(neg(id), neg(p)), row(neg(id), pos(p)), row(pos(id), pos(p), neg(p)))
	id++
	has(t, u, id, row(pos(id), pos(p)), row(pos(id), pos(q)), row(neg(id), neg(p), neg(q)))
	id++
	has(t, u, id, row(neg(id), pos(0), neg(p)), row(neg(id), neg(0), pos(p)), row(pos(id), neg(0), neg(p)), row(pos(id), pos(0), pos(p)))
	id++
	has(t, u, id, row(neg(id), pos(p)), row(neg(id), neg(p), neg(0)), row(pos(id), pos(p), neg(p)), row(pos(id), neg(p), pos(0)))
	id++
	has(t, u, id, row(neg(id), pos(p), pos(0)), row(neg(id), neg(p), neg(q)), row(pos(id), pos(p), neg(0)), row(pos(id), neg(p), pos(q)))
	id = end + 7
	has(t, u, id, row(neg(id), pos(end)), row(neg(id), neg(end)), row(pos(id), neg(end), pos(end)))
	// the condition of those that are not of Bool, too
	u = with(with(base(), iteXY, ite(api.Int, three, x, y)), iteAB, ite(own, twice, a, b))
	has(t, u, iteXY, row(pos(p), pos(toX)), row(pos(p), pos(fromX)), row(neg(p), pos(toY)), row(neg(p), pos(fromY)))
	has(t, u, iteAB, row(neg(p), pos(isA)), row(pos(p), pos(isB)))
	u = with(with(base(), iteXY, ite(api.Int, no, x, y)), iteAB, ite(own, api.True, a, b))
	has(t, u, iteXY, row(pos(0), pos(toX)), row(pos(0), pos(fromX)), row(neg(0), pos(toY)), row(neg(0), pos(fromY)))
	has(t, u, iteAB, row(neg(0), pos(isA)), row(pos(0), pos(isB)))
}

// P14.1: Args that are one, or each other's Neg: a literal that would stand twice
// stands once; a clause with a literal and its Neg has both, and clauses that
// are alike are told as often as they come.
func TestTwins(t *testing.T) {
	t2 := func(id int) (int, int) { return pos(id), neg(id) }
	P, N := t2(p)
	T, F := t2(end)
	for _, c := range []struct {
		n    api.Node
		want [][]int
	}{
		{and(p, p), [][]int{{P, F}, {P, F}, {N, T}}},
		{and(p, notP), [][]int{{P, F}, {N, F}, {P, N, T}}},
		{or(p, p), [][]int{{N, T}, {N, T}, {P, F}}},
		{or(notP, p), [][]int{{P, T}, {N, T}, {P, N, F}}},
		{equal(p, p), [][]int{{P, N, F}, {P, N, F}, {P, T}, {N, T}}},
		{equal(p, notP), [][]int{{N, F}, {P, F}, {P, N, T}, {P, N, T}}},
		{equal(notP, three), [][]int{{P, N, F}, {P, N, F}, {N, T}, {P, T}}},
		{ite(api.Bool, p, p, p), [][]int{{P, N, F}, {P, F}, {N, T}, {P, N, T}}},
		{ite(api.Bool, p, notP, p), [][]int{{N, F}, {P, F}, {P, N, T}, {P, N, T}}},
		{ite(api.Bool, notP, p, notP), [][]int{{P, F}, {N, F}, {P, N, T}, {P, N, T}}},
	} {
		has(t, upon(base(), c.n), end, c.want...)
	}
	// an OpIte of which both are one
	u := with(with(base(), iteXY, ite(api.Int, p, y, y)), iteAB, ite(own, p, b, b))
	has(t, u, iteXY, row(neg(p), pos(toY)), row(neg(p), pos(fromY)), row(pos(p), pos(toY)), row(pos(p), pos(fromY)))
	has(t, u, iteAB, row(neg(p), pos(isB)), row(pos(p), pos(isB)))
}

// P14.1: literals are put in order, whichever of them is the least.
func TestOrder(t *testing.T) {
	u := table(app(0, api.Bool), app(1, api.Bool), app(2, api.Bool), ite(api.Bool, 4, 3, 2), ite(api.Bool, 3, 4, 2), and(3, 2), equal(4, 2))
	has(t, u, 5, []int{6, 9, 11}, []int{4, 8, 11}, []int{7, 9, 10}, []int{5, 8, 10})
	has(t, u, 6, []int{7, 8, 13}, []int{4, 6, 13}, []int{7, 9, 12}, []int{5, 6, 12})
	has(t, u, 7, []int{6, 15}, []int{4, 15}, []int{5, 7, 14})
	has(t, u, 8, []int{4, 9, 17}, []int{5, 8, 17}, []int{4, 8, 16}, []int{5, 9, 16})
	// a condition behind which a difference stands, and one ahead of which: the
	// OpIte's place does not count
	v := table(app(0, api.Int), app(1, own), equal(0, 0), ite(api.Int, 4, 2, 2), less(5, 2, 0), less(2, 5, 0), ite(own, 4, 3, 3), equal(3, 8))
	has(t, v, 5, []int{9, 12}, []int{9, 14}, []int{8, 12}, []int{8, 14})
	has(t, v, 8, []int{9, 18}, []int{8, 18})
	ahead := table(app(0, own), app(1, own), app(0, api.Bool), ite(own, 4, 2, 3), equal(2, 5), equal(3, 5))
	has(t, ahead, 5, []int{9, 12}, []int{8, 14})
}

// A side is a base, and numbers that are put upon it, one upon another.
type side struct {
	base int
	l    []int
}

// put is u with that, and where it is.
func (s side) put(u api.Table) (api.Table, int) {
	at := s.base
	for _, n := range s.l {
		m := plus(at, n)
		if at == api.Zero {
			m = number(n)
		}
		u, at, _ = term.Put(u, m, 99)
	}
	return u, at
}

// by is the offset.
func (s side) by() (n int) {
	for _, k := range s.l {
		n += k
	}
	return n
}

// gP is an Int of ints()'s, at a place of its own.
const gP = p + 1

// ints is a table of x, y, p, gP, both sides, and the OpIte of p and these;
// where that is, and the differences that it has.
func ints(k, l side) (u api.Table, id int, diffs []api.Node) {
	u = table(app(0, api.Int), app(1, api.Int), app(2, api.Bool), app(3, api.Int, p))
	u, one := k.put(u)
	u, two := l.put(u)
	u = upon(u, ite(api.Int, p, one, two))
	id = len(u.Nodes) - 1
	for _, s := range []side{k, l} {
		diffs = append(diffs, less(id, s.base, s.by()), less(s.base, id, -s.by()))
	}
	return u, id, diffs
}

// putAll is u with all of l put that are not there yet.
func putAll(u api.Table, l ...api.Node) api.Table {
	for _, n := range l {
		if o, _, e := term.Put(u, n, 999); e == api.OK {
			u = o
		}
	}
	return u
}

// places are where these are.
func places(t *testing.T, u api.Table, l []api.Node) (o []int) {
	t.Helper()
	for _, n := range l {
		at, ok := term.Find(u, n)
		if !ok {
			t.Fatal(u, n)
		}
		o = append(o, at)
	}
	return o
}

// goodSides are those of which no sum is beyond what may be.
func goodSides() []side {
	return []side{
		{base: x},
		{base: y},
		{base: api.Zero},
		{base: gP},
		{x, []int{3}},
		{y, []int{-4}},
		{gP, []int{2}},
		{x, []int{0}},
		{api.Zero, []int{7}},
		{api.Zero, []int{-8}},
		{x, []int{most}},
		{y, []int{-most}},
		{api.Zero, []int{most}},
		{api.Zero, []int{-most}},
		{x, []int{5, -7}},
		{api.Zero, []int{5, -7}},
		{x, []int{most, 1, -5}},
		{gP, []int{-most, -1, 1}},
	}
}

// P14.1: OpIte of Int, with and without numbers on either side, its differences
// put in one order and in the other.
func TestInts(t *testing.T) {
	for _, k := range goodSides() {
		for _, l := range goodSides() {
			u, id, diffs := ints(k, l)
			back := slices.Clone(diffs)
			slices.Reverse(back)
			for _, w := range []api.Table{putAll(u, diffs...), putAll(u, back...)} {
				at := places(t, w, diffs)
				has(t, w, id, row(neg(p), pos(at[0])), row(neg(p), pos(at[1])), row(pos(p), pos(at[2])), row(pos(p), pos(at[3])))
			}
		}
	}
}

// P14.1: each difference of an OpIte of Int must be there, and no other will do.
func TestIntsNotThere(t *testing.T) {
	for _, k := range goodSides() {
		for _, l := range goodSides() {
			u, id, diffs := ints(k, l)
			fails(t, u, id)
			for _, n := range diffs {
				rest := slices.DeleteFunc(slices.Clone(diffs), func(m api.Node) bool { return m == n })
				fails(t, putAll(u, rest...), id)
				near := []api.Node{as(api.Int, n), as(own, n), less(n.Args[1], n.Args[0], n.N), less(n.Args[0], n.Args[1], n.N/2+1), less(n.Args[0], n.Args[1], n.N/2-1)}
				near = slices.DeleteFunc(near, func(m api.Node) bool { return m == n })
				w := putAll(u, append(near, rest...)...)
				sound(t, w)
				fails(t, w, id)
			}
		}
	}
}

// P14.1: a sum by which an offset is put together may not be: an error, whatever
// differences are there.
func TestIntsOver(t *testing.T) {
	for _, k := range []side{
		{x, []int{1, most}}, {x, []int{most, 1}}, {y, []int{-most, -1}}, {api.Zero, []int{most, 1}}, {gP, []int{most, most}},
		{x, []int{-5, 1, most}}, {x, []int{7, -1, -most}}, {api.Zero, []int{-5, most, 1}}, {x, []int{-most, most, most}},
	} {
		for _, l := range goodSides()[:9] {
			for _, o := range [][2]side{{k, l}, {l, k}} {
				u, id, diffs := ints(o[0], o[1])
				w := putAll(u, diffs...)
				w = putAll(w, less(id, k.base, 0), less(k.base, id, 0), less(id, k.base, most), less(k.base, id, -most), less(id, k.base, -most), less(k.base, id, most), less(0, 0, 0))
				sound(t, w)
				fails(t, w, id)
			}
		}
	}
}

// P14.1: an OpIte of Int of what is not of Int; an OpAdd of Int is, whatever it
// stands upon.
func TestIntsOfOthers(t *testing.T) {
	u := base()
	for _, k := range []int{p, a, d, notP, eqPQ, iteAB} {
		for _, n := range []api.Node{ite(api.Int, p, k, x), ite(api.Int, p, x, k), ite(api.Int, p, k, k)} {
			w := upon(u, n, less(end, x, 0), less(x, end, 0), less(end, k, 0), less(k, end, 0), less(0, 0, 0))
			sound(t, w)
			fails(t, w, end)
		}
	}
	for _, k := range []int{api.Zero, x, a, seven} { // no condition
		w := upon(u, ite(api.Int, k, x, x), less(end, x, 0), less(x, end, 0))
		sound(t, w)
		fails(t, w, end)
	}
	w := upon(u, plus(a, 2), ite(api.Int, p, end, x), less(end+1, x, 0), less(x, end+1, 0), less(end+1, a, 2), less(a, end+1, -2))
	has(t, w, end+1, row(neg(p), pos(end+4)), row(neg(p), pos(end+5)), row(pos(p), pos(end+2)), row(pos(p), pos(end+3)))
}

// P14.1: each equality of an OpIte of a sort of its own must be there, the lesser
// place first, and no other will do.
func TestOwnNotThere(t *testing.T) {
	for _, s := range []int{own, other, last} {
		u := table(app(0, s), app(1, s), app(2, api.Bool), app(3, s), ite(s, 4, 5, 3))
		one, two := equal(5, 6), equal(3, 6)
		has(t, upon(u, one, two), 6, []int{9, 14}, []int{8, 16})
		has(t, upon(u, two, one), 6, []int{9, 16}, []int{8, 14})
		has(t, upon(u, one, not(4), equal(6, 5), equal(6, 3), two), 6, []int{9, 14}, []int{8, 22})
		for _, l := range [][]api.Node{
			{}, {one}, {two}, {equal(6, 5), two}, {one, equal(6, 3)}, {equal(6, 5), equal(6, 3)}, {as(api.Int, one), two}, {one, as(s, two)},
			{equal(5, 3), one}, {equal(3, 5), equal(5, 3), two}, {equal(6, 6), one}, {less(5, 6, 0), two}, {and(5, 6), two}, {equal(2, 6), one},
		} {
			w := upon(u, l...)
			sound(t, w)
			fails(t, w, 6)
		}
		for _, k := range []int{api.Zero, 2, 3} { // no condition
			fails(t, with(upon(u, one, two), 6, ite(s, k, 5, 3)), 6)
		}
		w := with(upon(u, equal(3, 6)), 6, ite(s, 4, 3, 3)) // one of which both are one
		has(t, w, 6, []int{9, 14}, []int{8, 14})
	}
}

// P14.1: what an OpIte is of, its own Sort tells: of one that is not of Bool
// the condition's literal alone is asked.
func TestConditionAlone(t *testing.T) {
	u := upon(base(), not(x), not(a)) // Bools without a literal
	has(t, u, iteXY, row(neg(p), pos(toX)), row(neg(p), pos(fromX)), row(pos(p), pos(toY)), row(pos(p), pos(fromY)))
	for _, k := range []int{end, end + 1} {
		w := upon(u, ite(own, p, k, b), equal(k, end+2), equal(b, end+2))
		has(t, w, end+2, row(neg(p), pos(end+3)), row(pos(p), pos(end+4)))
		fails(t, with(w, end+2, ite(own, k, k, b)), end+2)
		fails(t, with(w, end+2, ite(api.Bool, p, k, q)), end+2)
	}
	w := upon(u, plus(end, 1), ite(api.Int, p, end+2, x), less(end+3, end, 1), less(end, end+3, -1), less(end+3, x, 0), less(x, end+3, 0))
	has(t, w, end+3, row(neg(p), pos(end+4)), row(neg(p), pos(end+5)), row(pos(p), pos(end+6)), row(pos(p), pos(end+7)))
	fails(t, with(w, end+3, ite(api.Int, end, end+2, x)), end+3)
}

// P14.1: Is of one that is a clause, in its order, and of others.
func TestIs(t *testing.T) {
	u := base()
	for id := range end {
		l, e := shape.Of(u, id)
		if e != api.OK {
			t.Fatal(id, e)
		}
		is := func(c []int) bool { return slices.ContainsFunc(l, func(o []int) bool { return slices.Equal(o, c) }) }
		for _, c := range l {
			if !shape.Is(u, id, slices.Clone(c)) {
				t.Error(id, c)
			}
			back := slices.Clone(c)
			slices.Reverse(back)
			others := [][]int{append(slices.Clone(c), c[len(c)-1]), append(slices.Clone(c), pos(end)), append([]int{-1}, c...), c[1:], c[:len(c)-1], append(slices.Clone(c), c...), {c[0]}}
			if len(c) > 1 {
				others = append(others, back, []int{c[0], c[0], c[1]})
			}
			for k := range c {
				o := slices.Clone(c)
				o[k] ^= 1
				others = append(others, o)
				o = slices.Clone(c)
				o[k] += 2
				others = append(others, o)
			}
			for _, o := range others {
				if shape.Is(u, id, o) != is(o) {
					t.Error(id, o, is(o))
				}
			}
			for k := range end {
				other, _ := shape.Of(u, k)
				if shape.Is(u, k, c) != slices.ContainsFunc(other, func(o []int) bool { return slices.Equal(o, c) }) {
					t.Error(id, k, c)
				}
			}
		}
		for _, c := range [][]int{nil, {}, far, {-2, 0}, {math.MinInt}, {math.MaxInt}} {
			if shape.Is(u, id, c) {
				t.Error(id, c)
			}
		}
	}
}

// all is what Of says of each node, one behind another.
func all(t *testing.T, u api.Table) (l [][]int) {
	t.Helper()
	for id := range u.Nodes {
		c, e := shape.Of(u, id)
		if e != api.OK {
			t.Fatal(u, id, e)
		}
		l = append(l, c...)
	}
	return l
}

// P14.2: those of all nodes, in order.
func TestAll(t *testing.T) {
	u := base()
	for n := 2; n <= end; n++ {
		w := api.Table{Nodes: u.Nodes[:n]}
		l, e := shape.All(w)
		// those that name nodes behind the end
		if n > iteXY && n <= fromY || n > iteAB && n <= isB || n > iteDD && n <= isD2 {
			if l != nil || e != api.ErrArg {
				t.Error(n, l, e)
			}
			continue
		}
		if !sameRows(l, all(t, w)) || e != api.OK {
			t.Error(n, l, e)
		}
	}
	if l, _ := shape.All(u); len(l) != 1+3+3+4+4+4+2+2 {
		t.Error(len(l), l)
	}
	for _, w := range []api.Table{term.New(), table(app(0, api.Int), plus(2, 1)), table(app(0, own), app(0, api.Bool), equal(2, 2), not(3))} {
		if l, e := shape.All(w); !sameRows(l, [][]int{{0}}) || e != api.OK {
			t.Error(l, e)
		}
	}
	w := table(app(0, api.Bool), as(own, api.Node{Op: api.OpTrue}), and(2, 2), or(0, 2))
	if l, e := shape.All(w); !sameRows(l, [][]int{{0}, {6}, {4, 9}, {4, 9}, {5, 8}, {1, 10}, {5, 10}, {0, 4, 11}}) || e != api.OK {
		t.Error(l, e)
	}
}

// P14.2: a table that may not be; one node of which Of is an error.
func TestAllErrors(t *testing.T) {
	for i, u := range strange() {
		if l, e := shape.All(u); l != nil || e != api.ErrArg {
			t.Error("strange", i, l, e)
		}
	}
	for _, n := range []api.Node{and(p, x), or(a, p), as(api.Int, and(q, p)), as(own, equal(q, p)), ite(api.Bool, x, p, q), ite(api.Int, q, x, y), ite(own, q, a, b)} {
		u := upon(base(), n)
		for range 3 { // the last one, or one ahead of others
			sound(t, u)
			fails(t, u, end)
			if _, e := shape.Of(u, andPQ); e != api.OK {
				t.Error(n, e)
			}
			u = upon(u, app(0, other, end, len(u.Nodes)-1))
		}
	}
}

// P14.2: of what core makes all clauses are there.
func TestAllOfCore(t *testing.T) {
	u := base()
	roots := make([]int, end)
	for id := range roots {
		roots[id] = id
	}
	c, _, e := core.Of(u, roots, 999)
	if e != api.OK {
		t.Fatal(e)
	}
	l, e := shape.All(c)
	if !sameRows(l, all(t, c)) || e != api.OK {
		t.Error(c, l, e)
	}
	n := 0
	for _, x := range c.Nodes {
		switch {
		case x.Op == api.OpTrue:
			n++
		case x.Op == api.OpAnd, x.Op == api.OpOr:
			n += 3
		case x.Op == api.OpEq && c.Nodes[x.Args[0]].Sort == api.Bool, x.Op == api.OpIte && x.Sort <= api.Int:
			n += 4
		case x.Op == api.OpIte:
			n += 2
		}
	}
	if len(l) != n || n < 20 {
		t.Error(len(l), "not", n)
	}
}

// R1: long rows: All ends soon, as it looks the table over once, not once a node.
func TestLong(t *testing.T) {
	const many = 100000
	u := table(app(0, api.Bool))
	for range many {
		u.Nodes = append(u.Nodes, not(len(u.Nodes)-1))
	}
	deep := len(u.Nodes) - 1
	for k := range many {
		u.Nodes = append(u.Nodes, or(deep-k, 2))
	}
	l, e := shape.All(u)
	if len(l) != 1+3*many || e != api.OK {
		t.Fatal(len(l), e)
	}
	for k := range many {
		id := deep + 1 + k
		lit := 4 + (many-k)%2
		c := [3][]int{{lit ^ 1, pos(id)}, {5, pos(id)}, row(lit, 4)}
		c[2] = append(c[2], neg(id))
		if !sameRows(l[1+3*k:4+3*k], c[:]) {
			t.Fatal(k, l[1+3*k:4+3*k], "not", c)
		}
	}
	has(t, u, deep+1, l[1:4]...)
}

// R3, R4: what is handed in is as it was, spare room included, and nothing of it
// is in an answer, or kept; no clause shares memory with another.
func TestMemory(t *testing.T) {
	room := append(base().Nodes, and(q, p), equal(x, y), number(9))
	u := api.Table{Nodes: room[:end]}
	asked := append(row(neg(p), pos(toX)), 71, 72)
	c := asked[:2]
	wasRoom, wasAsked := slices.Clone(room), slices.Clone(asked)
	answers := func() (l [][]int) {
		for range 2 {
			for id := range end {
				o, _ := shape.Of(u, id)
				l = append(l, o...)
			}
			o, _ := shape.All(u)
			l = append(l, o...)
		}
		if !shape.Is(u, iteXY, c) || shape.Is(u, iteXY, asked) || shape.Count(u, iteXY) != 4 {
			t.Error("Is, Count")
		}
		return l
	}
	l, want := answers(), answers()
	if len(l) != 4*23 {
		t.Fatal(len(l))
	}
	for i, o := range l {
		for k := range o[:cap(o)] {
			o[:cap(o)][k] = -5
		}
		for k, w := range l[i+1:] {
			if !slices.Equal(w, want[i+1+k]) {
				t.Fatal("shared", i, k)
			}
		}
		if !slices.Equal(room, wasRoom) || !slices.Equal(asked, wasAsked) {
			t.Fatal("changed", i)
		}
	}
	if !sameRows(answers(), want) {
		t.Error("kept")
	}
	// the rows of an answer have no room that another one's are in
	one, _ := shape.All(u)
	two, _ := shape.All(u)
	for k := range one[:cap(one)] {
		one[:cap(one)][k] = []int{-7}
	}
	if !sameRows(two, want[23:46]) {
		t.Error("rows shared")
	}
	for k := range u.Nodes {
		u.Nodes[k] = number(-9)
	}
	if !sameRows(two, want[23:46]) {
		t.Error("hangs on what was handed in")
	}
	copy(u.Nodes, wasRoom)
	u.Nodes[andPQ] = and(r, q)
	has(t, u, andPQ, row(neg(andPQ), pos(r)), row(neg(andPQ), pos(q)), row(pos(andPQ), neg(r), neg(q)))
}
