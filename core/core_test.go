package core_test

import (
	"math"
	"slices"
	"testing"

	"gantry/api"
	"gantry/core"
	"gantry/offset"
	"gantry/term"
)

const (
	most  = api.Most
	own   = api.Own
	other = api.Own + 1
)

// Places of base().
const (
	x     = 2 + iota // an Int
	y                // an Int
	p                // a Bool
	q                // a Bool
	a                // of a sort of its own
	b                // of the same
	c                // of another
	x1               // x + 1
	x9               // x - 9
	y5               // y + 5
	seven            // 7
	notP             // (not p)
	no               // (not true)
	f                // an Int, of x1
	f2               // f + 2
	eqPP             // (= p p)
	eqAB             // (= a b)
	xy3              // x - y <= 3
	end
)

// far are numbers that are no place of any table.
var far = []int{math.MinInt, math.MinInt32, -2, -1, 1 << 20, math.MaxInt32, math.MaxInt}

// tight are rooms that are none behind base().
var tight = []int{math.MinInt, -1, 0, 2, end - 1, end}

func args(l ...int) (o [api.MaxArgs]int) {
	copy(o[:], l)
	return o
}

// of is a node of that kind and Sort.
func of(op int8, sort int, l ...int) api.Node {
	return api.Node{Op: op, Len: int8(len(l)), Args: args(l...), Sort: sort}
}

func app(fun, sort int, l ...int) api.Node {
	n := of(api.OpApp, sort, l...)
	n.Fun = fun
	return n
}

func number(n int) api.Node { return api.Node{Op: api.OpNum, Sort: api.Int, N: n} }

func plus(at, n int) api.Node {
	o := of(api.OpAdd, api.Int, at)
	o.N = n
	return o
}

func less(k, l, n int) api.Node {
	o := of(api.OpDiff, api.Bool, k, l)
	o.N = n
	return o
}

func not(at int) api.Node { return of(api.OpNot, api.Bool, at) }

func and(k, l int) api.Node { return of(api.OpAnd, api.Bool, k, l) }

func equal(k, l int) api.Node { return of(api.OpEq, api.Bool, k, l) }

// as is n with another Sort.
func as(sort int, n api.Node) api.Node {
	n.Sort = sort
	return n
}

// table is a table of True, Zero and those nodes.
func table(l ...api.Node) api.Table {
	return api.Table{Nodes: append([]api.Node{{Op: api.OpTrue}, number(0)}, l...)}
}

// upon is u with those nodes behind, in memory of its own.
func upon(u api.Table, l ...api.Node) api.Table {
	return api.Table{Nodes: slices.Concat(u.Nodes, l)}
}

// base is a core table.
func base() api.Table {
	return table(
		app(0, api.Int),
		app(1, api.Int),
		app(2, api.Bool),
		app(3, api.Bool),
		app(4, own),
		app(5, own),
		app(6, other),
		plus(x, 1),
		plus(x, -9),
		plus(y, 5),
		number(7),
		not(p),
		not(api.True),
		app(7, api.Int, x1),
		plus(f, 2),
		equal(p, p),
		equal(a, b),
		less(x, y, 3),
	)
}

// sound fails, unless u may be: a test that asks of one that may not be asks
// for nothing but ErrArg.
func sound(t *testing.T, u api.Table) {
	t.Helper()
	if e := term.Check(u); e != api.OK {
		t.Fatal(u, e)
	}
}

// strange are tables that may not be.
func strange() []api.Table {
	l := []api.Table{
		{},
		{Nodes: []api.Node{}},
		{Nodes: base().Nodes[:1]},
		{Nodes: base().Nodes[1:]},
		{Nodes: slices.Concat(base().Nodes[:x], base().Nodes[x+1:])},
	}
	for _, n := range []api.Node{
		number(7), // twice
		not(p),
		not(end), // of itself
		and(x, end+1),
		and(-1, p),
		equal(math.MaxInt, p),
		equal(p, math.MinInt),
		of(api.OpIte, api.Int, p, x, math.MaxInt),
		plus(x, most+1),
		number(-most - 1),
		app(api.MaxFuns, api.Int),
		as(-1, not(q)),
		as(api.Own+api.MaxSorts, not(q)),
		of(api.OpAnd, api.Bool, p),
		of(api.OpApp+1, api.Bool),
		{Op: -1},
		{Op: api.OpNot, Len: -1},
		{Op: api.OpAnd, Len: 127},
	} {
		l = append(l, upon(base(), n))
	}
	u := base() // two that stand upon each other
	u.Nodes[x1], u.Nodes[x9] = plus(x9, 1), plus(x1, 1)
	return append(l, u)
}

// crude are tables that may be, but are not core, each by its last node alone.
func crude() (l []api.Table) {
	for _, n := range []api.Node{
		of(api.OpXor, api.Bool, p, q),
		of(api.OpXor, api.Bool, p, p),
		of(api.OpImp, api.Bool, p, q),
		of(api.OpImp, api.Bool, api.True, q),
		of(api.OpLe, api.Bool, x, y),
		of(api.OpLe, api.Bool, x, x),
		of(api.OpLt, api.Bool, x, y),
		of(api.OpLt, api.Bool, f, api.Zero),
		equal(x, y),
		equal(y, x),
		equal(x, x),
		equal(x, x1),
		equal(x, seven),
		equal(api.Zero, seven),
		equal(a, a),
		equal(c, c),
		as(own, equal(a, a)),
		not(notP),
		not(no),
		as(api.Int, not(notP)),
		less(x, x, 0),
		less(x, x, -1),
		less(f, f, 1),
		less(api.Zero, api.Zero, 0),
		less(x1, y, 0), // of one base that is none
		less(x, y5, 0),
		less(x1, x, 0),
		less(x, x1, 0),
		less(x1, x9, 0),
		less(x1, y5, 0),
		less(seven, x, 0),
		less(x, seven, 0),
		less(api.Zero, seven, 0),
		less(f2, x, 0),
		less(p, x, 0), // of what is no Int
		less(x, p, 0),
		less(x, api.True, 0),
		less(a, b, 0),
		plus(x, 0), // out of order
		plus(f, 0),
		plus(x1, 1),
		plus(x1, -1),
		plus(seven, 1),
		plus(api.Zero, 1),
		plus(api.Zero, 0),
	} {
		l = append(l, upon(base(), n))
	}
	return l
}

// odd are nodes that a core table may have behind base(), though the sorts of
// some of them do not fit.
func odd() []api.Node {
	return []api.Node{
		not(q),
		not(eqAB),
		and(p, q),
		and(p, p),
		and(notP, p),
		of(api.OpOr, api.Bool, no, api.True),
		equal(p, q),
		equal(q, p),
		equal(q, q),
		equal(notP, notP),
		equal(b, a),
		of(api.OpIte, api.Bool, p, q, q),
		of(api.OpIte, api.Int, p, x, y),
		of(api.OpIte, api.Int, p, x, x),
		of(api.OpIte, own, p, b, a),
		of(api.OpIte, own, no, b, b),
		number(8),
		number(-most),
		plus(x, 2),
		plus(x, most),
		plus(f, 1),
		less(x, y, 4),
		less(y, x, 3),
		less(x, f, most),
		less(x, api.Zero, 0),
		less(api.Zero, x, 0),
		app(9, api.Bool, x1, no, a),
		app(9, own, p, p, p),
		not(x),
		not(a),
		as(api.Int, not(q)),
		and(x, a),
		as(own, and(p, p)),
		equal(p, x),
		equal(a, p),
		equal(a, c),
		as(api.Int, equal(p, p)),
		of(api.OpIte, api.Int, x, p, a),
		plus(p, 3),
		plus(notP, 3),
		as(api.Bool, plus(x, 3)),
		as(own, number(7)),
		as(api.Bool, number(0)),
	}
}

// P12.1: what is core.
func TestIs(t *testing.T) {
	for n := 2; n <= end; n++ {
		if !core.Is(api.Table{Nodes: base().Nodes[:n]}) {
			t.Error(n)
		}
	}
	for _, n := range odd() {
		u := upon(base(), n)
		sound(t, u)
		if !core.Is(u) {
			t.Error(n)
		}
	}
	if !core.Is(term.New()) {
		t.Error("New")
	}
}

// P12.1: what is not, also if there is more behind.
func TestIsNot(t *testing.T) {
	for i, u := range strange() {
		if term.Check(u) == api.OK || core.Is(u) {
			t.Error("strange", i)
		}
	}
	for _, u := range crude() {
		sound(t, u)
		if core.Is(u) || core.Is(upon(u, and(q, q), app(9, own))) {
			t.Error(u.Nodes[end])
		}
	}
}

// P12.1: an Int is a base wherever it is neither a number nor a sum.
func TestIsBases(t *testing.T) {
	u := upon(base(), of(api.OpIte, api.Int, p, x, y), as(api.Int, and(p, q)), as(api.Bool, number(0)))
	for _, c := range []struct {
		n    api.Node
		core bool
	}{
		{less(end, x, 0), true},
		{less(api.Zero, end, -4), true},
		{less(end, end+1, 0), true},
		{less(end+1, f, 0), true},
		{less(end, end, 0), false},
		{less(end, f2, 0), false},
		{less(end+2, x, 0), false},
		{less(x, end+2, 0), false},
		{plus(end, 4), true},
		{plus(end+1, 4), true},
		{plus(end+2, 4), false},
		{equal(end, end+1), false},
		{equal(end+2, end+2), true},
	} {
		w := upon(u, c.n)
		sound(t, w)
		if core.Is(w) != c.core {
			t.Error(c)
		}
	}
}

// An answer is a table's nodes, a place, an error.
type answer struct {
	t  []api.Node
	at int
	e  api.Errno
}

func (o answer) same(w answer) bool {
	return o.at == w.at && o.e == w.e && slices.Equal(o.t, w.t)
}

func told(o api.Table, at int, e api.Errno) answer { return answer{o.Nodes, at, e} }

func notOf(u api.Table, id, room int) answer { return told(core.Not(u, id, room)) }

func equalOf(u api.Table, k, l, room int) answer { return told(core.Equal(u, k, l, room)) }

func iteOf(u api.Table, i, k, l, room int) answer { return told(core.Ite(u, i, k, l, room)) }

// is asks for u with those nodes put, and a place; at each room that there may
// be, with one answer for those with room for all, and ErrMany else.
func is(t *testing.T, u api.Table, call func(room int) answer, at int, put ...api.Node) {
	t.Helper()
	w := upon(u, put...)
	sound(t, w)
	n := len(u.Nodes)
	for room := n - 1; room <= n+len(put)+1; room++ {
		want := answer{w.Nodes, at, api.OK}
		if room < n+len(put) && len(put) > 0 {
			want = answer{e: api.ErrMany}
		}
		if o := call(room); !o.same(want) {
			t.Error(room, o, "not", want)
		}
	}
	if o := call(math.MaxInt); !o.same(answer{w.Nodes, at, api.OK}) || !core.Is(w) {
		t.Error(o, core.Is(w), "not", w, at)
	}
	if o := call(math.MinInt); o.e == api.OK != (len(put) == 0) {
		t.Error(o)
	}
}

// fails asks for an error.
func fails(t *testing.T, o answer, want api.Errno) {
	t.Helper()
	if !o.same(answer{e: want}) {
		t.Error(o, "not", want)
	}
}

func isNot(t *testing.T, u api.Table, id, at int, put ...api.Node) {
	t.Helper()
	is(t, u, func(room int) answer { return notOf(u, id, room) }, at, put...)
}

func isEqual(t *testing.T, u api.Table, k, l, at int, put ...api.Node) {
	t.Helper()
	is(t, u, func(room int) answer { return equalOf(u, k, l, room) }, at, put...)
}

func isIte(t *testing.T, u api.Table, i, k, l, at int, put ...api.Node) {
	t.Helper()
	is(t, u, func(room int) answer { return iteOf(u, i, k, l, room) }, at, put...)
}

// P12.1: the negation.
func TestNot(t *testing.T) {
	u := base()
	for _, id := range []int{q, eqPP, eqAB, xy3} {
		isNot(t, u, id, end, not(id))
	}
	isNot(t, u, p, notP)
	isNot(t, u, api.True, no)
	isNot(t, u, notP, p)
	isNot(t, u, no, api.True)
	isNot(t, term.New(), api.True, 2, not(api.True))
	// whatever the Sorts are
	for _, n := range []api.Node{not(x), not(a), as(api.Int, not(p)), as(own, not(x))} {
		isNot(t, upon(u, n), end, n.Args[0])
	}
	isNot(t, upon(u, as(api.Int, not(q))), q, end+1, not(q))
}

// P12.1: the errors of Not, in their order.
func TestNotErrors(t *testing.T) {
	u := base()
	for _, room := range append([]int{99}, tight...) {
		for _, id := range append([]int{end, end + 1}, far...) {
			fails(t, notOf(u, id, room), api.ErrArg)
		}
		for _, id := range []int{api.Zero, x, y, a, b, c, x1, x9, y5, seven, f, f2} {
			fails(t, notOf(u, id, room), api.ErrSort)
		}
		w := upon(u, not(x), as(own, number(7)), as(api.Int, not(q))) // the node is there, and does not fit
		fails(t, notOf(w, x, room), api.ErrSort)
		fails(t, notOf(w, end+1, room), api.ErrSort)
		for _, w := range append(strange(), crude()...) {
			for _, id := range []int{p, notP, x, end, -1} {
				fails(t, notOf(w, id, room), api.ErrArg)
			}
		}
	}
	for _, room := range tight {
		fails(t, notOf(u, q, room), api.ErrMany)
	}
}

// P12.1: of Bool: the node as it is.
func TestEqualOfBool(t *testing.T) {
	u := base()
	isEqual(t, u, p, q, end, equal(p, q))
	isEqual(t, u, q, p, end, equal(q, p))
	isEqual(t, u, q, q, end, equal(q, q))
	isEqual(t, u, p, p, eqPP)
	isEqual(t, u, notP, no, end, equal(notP, no))
	isEqual(t, u, xy3, api.True, end, equal(xy3, api.True))
	isEqual(t, u, api.True, api.True, end, equal(api.True, api.True))
}

// P12.1: of Int: two differences, and both.
func TestEqualOfInt(t *testing.T) {
	u := base()
	isEqual(t, u, x, y, end+2, less(x, y, 0), less(y, x, 0), and(end, end+1))
	isEqual(t, u, y, x, end+2, less(y, x, 0), less(x, y, 0), and(end, end+1))
	isEqual(t, u, x1, y5, end+2, less(x, y, 4), less(y, x, -4), and(end, end+1))
	isEqual(t, u, y5, x9, end+2, less(y, x, -14), less(x, y, 14), and(end, end+1))
	isEqual(t, u, x1, seven, end+2, less(x, api.Zero, 6), less(api.Zero, x, -6), and(end, end+1))
	isEqual(t, u, seven, x1, end+2, less(api.Zero, x, -6), less(x, api.Zero, 6), and(end, end+1))
	isEqual(t, u, f2, y, end+2, less(f, y, -2), less(y, f, 2), and(end, end+1))
	// some of them are there
	w := upon(u, plus(y, 2))
	isEqual(t, upon(u, plus(x, -3)), end, y, end+2, less(y, x, -3), and(xy3, end+1))
	isEqual(t, upon(u, plus(y, 3)), x, end, end+2, less(y, x, -3), and(xy3, end+1))
	isEqual(t, upon(u, plus(y, 3)), end, x, end+2, less(y, x, -3), and(end+1, xy3))
	isEqual(t, upon(w, less(y, x, -2)), x, end, end+3, less(x, y, 2), and(end+2, end+1))
	isEqual(t, upon(u, less(x, y, 0), less(y, x, 0)), x, y, end+2, and(end, end+1))
	isEqual(t, upon(u, less(x, y, 0), less(y, x, 0), and(end, end+1)), x, y, end+2)
	isEqual(t, upon(u, less(x, y, 0), less(y, x, 0), and(end, end+1)), y, x, end+3, and(end+1, end))
}

// P12.1: of Ints of one base: each difference is true or false.
func TestEqualOfOneBase(t *testing.T) {
	u := base()
	for _, id := range []int{x, x1, f2, seven, api.Zero} {
		isEqual(t, u, id, id, end, and(api.True, api.True))
	}
	isEqual(t, u, x, x1, end, and(api.True, no))
	isEqual(t, u, x1, x, end, and(no, api.True))
	isEqual(t, u, x1, x9, end, and(no, api.True))
	isEqual(t, u, x9, x1, end, and(api.True, no))
	isEqual(t, u, seven, api.Zero, end, and(no, api.True))
	isEqual(t, u, api.Zero, seven, end, and(api.True, no))
	w := table(number(7))
	isEqual(t, w, 2, api.Zero, 4, not(api.True), and(3, api.True))
	isEqual(t, w, api.Zero, 2, 4, not(api.True), and(api.True, 3))
	isEqual(t, w, 2, 2, 3, and(api.True, api.True))
}

// P12.1: of a sort of its own: true, or the lesser place first.
func TestEqualOfOwn(t *testing.T) {
	u := upon(base(), app(9, own))
	for _, id := range []int{a, b, c, end} {
		isEqual(t, u, id, id, api.True)
	}
	isEqual(t, u, a, b, eqAB)
	isEqual(t, u, b, a, eqAB)
	isEqual(t, u, a, end, end+1, equal(a, end))
	isEqual(t, u, end, b, end+1, equal(b, end))
	isEqual(t, upon(u, equal(end, a)), end, a, end+2, equal(a, end)) // the one that is there is another
}

// P12.1: sums that leave the numbers that may be.
func TestEqualOver(t *testing.T) {
	for _, z := range []struct {
		first, second int
		e             api.Errno
	}{{most, -1, api.ErrOver}, {-1, most, api.ErrOver}, {-most, 1, api.ErrOver}, {1, -most, api.ErrOver}, {most, -most, api.ErrOver},
		{most, 1, api.OK}, {1, most, api.OK}, {-most, -1, api.OK}, {most, most, api.OK}, {-most, -most, api.OK}} {
		u := table(app(0, api.Int), app(1, api.Int), plus(x, z.first), plus(y, z.second))
		if z.e == api.OK {
			d := z.second - z.first
			isEqual(t, u, 4, 5, 8, less(x, y, d), less(y, x, -d), and(6, 7))
		} else {
			for _, room := range []int{0, 6, 7, 99} {
				fails(t, equalOf(u, 4, 5, room), z.e) // ahead of ErrMany
				fails(t, equalOf(u, 5, 4, room), z.e)
			}
		}
	}
	u := table(app(0, api.Int), plus(x, most), plus(x, -1), number(most), number(-most))
	for _, k := range [][2]int{{3, 4}, {4, 3}, {5, 6}, {6, 5}} { // of one base, too
		for _, room := range []int{0, 7, 99} {
			fails(t, equalOf(u, k[0], k[1], room), api.ErrOver)
		}
	}
}

// P12.1: the errors of Equal, in their order.
func TestEqualErrors(t *testing.T) {
	u := base()
	alike := map[int]int{api.True: 0, p: 0, q: 0, notP: 0, no: 0, eqPP: 0, eqAB: 0, xy3: 0, a: 2, b: 2, c: 3}
	sort := func(id int) int {
		if s, ok := alike[id]; ok {
			return s
		}
		return 1
	}
	for _, room := range append([]int{99}, tight...) {
		for _, id := range append([]int{end, end + 1}, far...) {
			for _, k := range []int{x, p, id} {
				fails(t, equalOf(u, id, k, room), api.ErrArg)
				fails(t, equalOf(u, k, id, room), api.ErrArg)
			}
		}
		for k := range end {
			for l := range end {
				if sort(k) != sort(l) {
					fails(t, equalOf(u, k, l, room), api.ErrSort)
				}
			}
		}
		for _, w := range append(strange(), crude()...) {
			for _, k := range [][2]int{{p, q}, {a, a}, {x, p}, {-1, p}, {x, y}} {
				fails(t, equalOf(w, k[0], k[1], room), api.ErrArg)
			}
		}
	}
	for _, room := range tight {
		fails(t, equalOf(u, p, q, room), api.ErrMany)
		fails(t, equalOf(u, x, y, room), api.ErrMany)
		fails(t, equalOf(u, x, x, room), api.ErrMany)
	}
}

// P12.1: Ints whose base is of another sort.
func TestOfOtherBases(t *testing.T) {
	const (
		p3 = end + iota
		p4
		big // p + most
		low // x - 5
		a3  // a + 3
		z3  // an Int by its Sort alone, and 3
	)
	u := upon(base(), plus(p, 3), plus(p, 4), plus(p, most), plus(x, -5), plus(a, 3), as(api.Bool, plus(x, 3)))
	sound(t, u)
	for _, room := range []int{0, len(u.Nodes), len(u.Nodes) + 1, len(u.Nodes) + 4, 99} {
		for _, id := range []int{x, x1, seven, f2, api.Zero, low, a3} {
			fails(t, equalOf(u, p3, id, room), api.ErrSort)
			fails(t, equalOf(u, id, p3, room), api.ErrSort)
			fails(t, equalOf(u, big, id, room), api.ErrSort) // ahead of ErrOver
			fails(t, equalOf(u, id, big, room), api.ErrSort)
			fails(t, iteOf(u, q, id, p3, room), api.ErrSort) // ahead of ErrMany, of what is put ahead of it
			fails(t, iteOf(u, q, p3, id, room), api.ErrSort)
		}
		fails(t, iteOf(u, q, p3, p4, room), api.ErrSort)
	}
	isEqual(t, u, p3, p3, len(u.Nodes), and(api.True, api.True))
	isEqual(t, u, p3, p4, len(u.Nodes), and(api.True, no))
	isEqual(t, u, z3, p, len(u.Nodes), equal(z3, p))
	isIte(t, u, q, p3, p3, p3)
	isIte(t, u, z3, x, x, x)
	isIte(t, u, q, z3, p, len(u.Nodes), of(api.OpIte, api.Bool, q, z3, p))
}

// P12.1: b and c are one node.
func TestIteOfOne(t *testing.T) {
	u := base()
	for id := range end {
		for _, i := range []int{api.True, p, notP, no, eqAB, xy3} {
			isIte(t, u, i, id, id, id)
		}
		for _, room := range append([]int{99}, tight...) {
			for _, i := range []int{api.Zero, x, a, c, x1, seven, f} {
				fails(t, iteOf(u, i, id, id, room), api.ErrSort)
			}
		}
	}
}

// P12.1: the node, and what stands behind it.
func TestIte(t *testing.T) {
	u := base()
	ite := func(sort, i, k, l int) api.Node { return of(api.OpIte, sort, i, k, l) }
	isIte(t, u, p, q, notP, end, ite(api.Bool, p, q, notP))
	isIte(t, u, p, p, q, end, ite(api.Bool, p, p, q))
	isIte(t, u, no, api.True, q, end, ite(api.Bool, no, api.True, q))
	isIte(t, u, p, x, y, end, ite(api.Int, p, x, y), less(end, x, 0), less(x, end, 0), less(end, y, 0), less(y, end, 0))
	isIte(t, u, p, y, x, end, ite(api.Int, p, y, x), less(end, y, 0), less(y, end, 0), less(end, x, 0), less(x, end, 0))
	isIte(t, u, q, x1, y5, end, ite(api.Int, q, x1, y5), less(end, x, 1), less(x, end, -1), less(end, y, 5), less(y, end, -5))
	isIte(t, u, q, seven, f2, end, ite(api.Int, q, seven, f2), less(end, api.Zero, 7), less(api.Zero, end, -7), less(end, f, 2), less(f, end, -2))
	isIte(t, u, q, x1, x9, end, ite(api.Int, q, x1, x9), less(end, x, 1), less(x, end, -1), less(end, x, -9), less(x, end, 9))
	isIte(t, u, no, api.Zero, seven, end, ite(api.Int, no, api.Zero, seven), less(end, api.Zero, 0), less(api.Zero, end, 0), less(end, api.Zero, 7), less(api.Zero, end, -7))
	isIte(t, u, p, a, b, end, ite(own, p, a, b), equal(a, end), equal(b, end))
	isIte(t, u, p, b, a, end, ite(own, p, b, a), equal(b, end), equal(a, end))
	w := upon(u, app(9, other))
	isIte(t, w, q, end, c, end+1, ite(other, q, end, c), equal(end, end+1), equal(c, end+1))
	for _, k := range []int{most, -most} {
		v := table(app(0, api.Int), app(1, api.Bool), number(k), plus(2, k))
		isIte(t, v, 3, 4, 5, 6, ite(api.Int, 3, 4, 5), less(6, api.Zero, k), less(api.Zero, 6, -k), less(6, 2, k), less(2, 6, -k))
	}
}

// P12.1: some of it is there.
func TestIteThere(t *testing.T) {
	u := base()
	it, eq := of(api.OpIte, api.Int, p, x, y), of(api.OpIte, own, p, a, b)
	isIte(t, upon(u, it), p, x, y, end, less(end, x, 0), less(x, end, 0), less(end, y, 0), less(y, end, 0))
	isIte(t, upon(u, it, less(end, y, 0), less(x, end, 0)), p, x, y, end, less(end, x, 0), less(y, end, 0))
	isIte(t, upon(u, it, less(end, x, 0), less(x, end, 0), less(end, y, 0), less(y, end, 0)), p, x, y, end)
	isIte(t, upon(u, eq), p, a, b, end, equal(a, end), equal(b, end))
	isIte(t, upon(u, eq, equal(b, end)), p, a, b, end, equal(a, end))
	isIte(t, upon(u, eq, equal(b, end), equal(end, a)), p, a, b, end, equal(a, end))
	isIte(t, upon(u, eq, equal(b, end), equal(a, end)), p, a, b, end)
	isIte(t, upon(u, of(api.OpIte, api.Bool, p, q, notP)), p, q, notP, end)
}

// P12.1: the errors of Ite, in their order.
func TestIteErrors(t *testing.T) {
	u := base()
	for _, room := range append([]int{99}, tight...) {
		for _, id := range append([]int{end, end + 1}, far...) {
			for _, k := range [][3]int{{id, x, y}, {p, id, x}, {p, x, id}, {p, id, id}, {x, a, id}, {id, id, id}, {id, x, x}} {
				fails(t, iteOf(u, k[0], k[1], k[2], room), api.ErrArg)
			}
		}
		for _, k := range [][3]int{{x, x, y}, {a, p, q}, {x, p, p}, {p, x, q}, {p, q, x}, {p, a, x}, {p, x, a}, {p, a, c}, {p, c, b}, {seven, p, x}, {p, api.True, api.Zero}} {
			fails(t, iteOf(u, k[0], k[1], k[2], room), api.ErrSort)
		}
		for _, w := range append(strange(), crude()...) {
			for _, k := range [][3]int{{p, x, y}, {p, x, x}, {x, p, a}, {p, -1, x}} {
				fails(t, iteOf(w, k[0], k[1], k[2], room), api.ErrArg)
			}
		}
	}
	for _, room := range tight {
		for _, k := range [][3]int{{p, x, y}, {p, q, p}, {p, a, b}} {
			fails(t, iteOf(u, k[0], k[1], k[2], room), api.ErrMany)
		}
	}
}

// P12.3: what these put into a core table leaves it core; Not goes back.
func TestStaysCore(t *testing.T) {
	u := base()
	for k := range end {
		if o := notOf(u, k, 99); o.e == api.OK {
			if back := notOf(api.Table{Nodes: o.t}, o.at, 99); !back.same(answer{o.t, k, api.OK}) {
				t.Error("Not", k, back)
			}
		}
		for l := range end {
			for _, o := range []answer{equalOf(u, k, l, 99), iteOf(u, p, k, l, 99), iteOf(u, no, k, l, 99)} {
				if w := (api.Table{Nodes: o.t}); o.e == api.OK && (!core.Is(w) || !offset.Ordered(w)) {
					t.Error(k, l, o)
				}
			}
		}
	}
}
