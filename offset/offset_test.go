package offset_test

import (
	"math"
	"slices"
	"testing"

	"gantry/api"
	"gantry/offset"
	"gantry/term"
)

const most = api.Most

// Places of base().
const (
	x     = 2 + iota // an Int
	y                // an Int
	p                // a Bool
	s                // of a sort of its own
	x1               // x + 1
	x12              // x + 1 + 2
	seven            // 7
	four             // 7 - 3
	y5               // y + 5
	f                // an Int, of y + 5
	f2               // f - 2
	ite              // an Int: x, if p, else y + 5
	ite9             // ite + 9
	le               // x <= y
	diff             // x - y <= 3
	end
)

// far are numbers that are no place of any table.
var far = []int{math.MinInt, math.MinInt32, -2, -1, 1 << 20, math.MaxInt32, math.MaxInt}

// beyond are numbers that may not be.
var beyond = []int{math.MinInt, math.MinInt + 1, -most - 1, most + 1, math.MaxInt - 1, math.MaxInt}

func args(l ...int) (a [api.MaxArgs]int) {
	copy(a[:], l)
	return a
}

func app(fun, sort int, l ...int) api.Node {
	return api.Node{Op: api.OpApp, Len: int8(len(l)), Args: args(l...), Sort: sort, Fun: fun}
}

func number(n int) api.Node { return api.Node{Op: api.OpNum, Sort: api.Int, N: n} }

func plus(at, n int) api.Node {
	return api.Node{Op: api.OpAdd, Len: 1, Args: args(at), Sort: api.Int, N: n}
}

func less(a, b, n int) api.Node {
	return api.Node{Op: api.OpDiff, Len: 2, Args: args(a, b), N: n}
}

func not(at int) api.Node { return api.Node{Op: api.OpNot, Len: 1, Args: args(at)} }

// of is n with another Sort.
func of(sort int, n api.Node) api.Node {
	n.Sort = sort
	return n
}

// table is a table of True, Zero and those nodes.
func table(l ...api.Node) api.Table {
	return api.Table{Nodes: append([]api.Node{{Op: api.OpTrue}, number(0)}, l...)}
}

// with is u with those nodes behind, in memory of its own.
func with(u api.Table, l ...api.Node) api.Table {
	return api.Table{Nodes: slices.Concat(u.Nodes, l)}
}

func base() api.Table {
	return table(
		app(0, api.Int),
		app(1, api.Int),
		app(2, api.Bool),
		app(3, api.Own),
		plus(x, 1),
		plus(x1, 2),
		number(7),
		plus(seven, -3),
		plus(y, 5),
		app(4, api.Int, y5),
		plus(f, -2),
		api.Node{Op: api.OpIte, Len: 3, Args: args(p, x, y5), Sort: api.Int},
		plus(ite, 9),
		api.Node{Op: api.OpLe, Len: 2, Args: args(x, y)},
		less(x, y, 3),
	)
}

// put is u with n behind, unless it is there already, and n's place.
func put(u api.Table, n api.Node) (api.Table, int) {
	if at, there := term.Find(u, n); there {
		return u, at
	}
	return with(u, n), len(u.Nodes)
}

// upon is u with OpAdds of those numbers, each upon the next one's, the last
// one's upon at; and where the first one's is.
func upon(u api.Table, at int, l ...int) (api.Table, int) {
	for _, n := range slices.Backward(l) {
		u, at = put(u, plus(at, n))
	}
	return u, at
}

// sound fails, unless u may be: a test that asks of one that may not be asks
// for nothing but ErrArg.
func sound(t *testing.T, u api.Table) {
	t.Helper()
	if e := term.Check(u); e != api.OK {
		t.Fatal(u, e)
	}
}

// strange are tables that may not be, each at least as long as base(), but for
// the first ones.
func strange() []api.Table {
	l := []api.Table{
		{},
		{Nodes: []api.Node{}},
		{Nodes: base().Nodes[:1]},
		{Nodes: base().Nodes[1:]},
		{Nodes: slices.Concat(base().Nodes[:x], base().Nodes[x+1:])},
	}
	for _, n := range []api.Node{
		plus(x, 1), // twice
		number(7),
		number(0),
		plus(end, 1),   // upon itself
		plus(end+1, 1), // above
		plus(-1, 1),
		plus(math.MaxInt, 1),
		plus(math.MinInt, 1),
		plus(x, most+1),
		plus(x, math.MinInt),
		number(-most - 1),
		app(api.MaxFuns, api.Int),
		of(-1, plus(x, 5)),
		of(api.Own+api.MaxSorts, plus(x, 5)),
		{Op: api.OpAdd, Sort: api.Int, N: 5},
		{Op: api.OpAdd, Len: 2, Args: args(x, y), Sort: api.Int, N: 5},
		{Op: api.OpAdd, Len: -1, Sort: api.Int, N: 5},
		{Op: api.OpNum, Len: 1, Sort: api.Int, N: 5},
		{Op: api.OpApp + 1, Sort: api.Int},
		{Op: -1, Sort: api.Int},
	} {
		l = append(l, with(base(), n))
	}
	u := base() // two that stand upon each other
	u.Nodes[x1], u.Nodes[x12] = plus(x12, 1), plus(x1, 1)
	return append(l, u)
}

// isOf asks for a base and an offset.
func isOf(t *testing.T, u api.Table, id, base, n int) {
	t.Helper()
	sound(t, u)
	if b, k, e := offset.Of(u, id); b != base || k != n || e != api.OK {
		t.Error("Of", id, b, k, e, "not", base, n)
	}
}

// noOf asks for an error.
func noOf(t *testing.T, u api.Table, id int, want api.Errno) {
	t.Helper()
	if b, k, e := offset.Of(u, id); b != 0 || k != 0 || e != want {
		t.Error("Of", id, b, k, e, "not", want)
	}
}

// P11.1: of each kind.
func TestOf(t *testing.T) {
	u := base()
	isOf(t, u, api.Zero, api.Zero, 0)
	isOf(t, u, x, x, 0)
	isOf(t, u, y, y, 0)
	isOf(t, u, x1, x, 1)
	isOf(t, u, x12, x, 3)
	isOf(t, u, seven, api.Zero, 7)
	isOf(t, u, four, api.Zero, 4)
	isOf(t, u, y5, y, 5)
	isOf(t, u, f, f, 0)
	isOf(t, u, f2, f, -2)
	isOf(t, u, ite, ite, 0)
	isOf(t, u, ite9, ite, 9)
	for _, id := range []int{api.True, p, s, le, diff} {
		noOf(t, u, id, api.ErrSort)
	}
	for _, id := range append([]int{end, end + 1}, far...) {
		noOf(t, u, id, api.ErrArg)
	}
	isOf(t, table(), api.Zero, api.Zero, 0)
	noOf(t, table(), 2, api.ErrArg)
}

// P11.1: OpAdds of 0, and of a number's base, count as others do.
func TestOfUpon(t *testing.T) {
	u, at := upon(base(), x, 0)
	isOf(t, u, at, x, 0)
	u, at = upon(base(), api.Zero, 0)
	isOf(t, u, at, api.Zero, 0)
	u, at = upon(base(), api.Zero, 5)
	isOf(t, u, at, api.Zero, 5)
	u, at = upon(base(), seven, -4, 0, -4)
	isOf(t, u, at, api.Zero, -1)
	isOf(t, u, at-1, api.Zero, 3)
	u, at = upon(base(), f2, 2)
	isOf(t, u, at, f, 0)
}

// P11.1: whatever is asked for, of a table that may not be.
func TestStrangeTables(t *testing.T) {
	for i, u := range strange() {
		if term.Check(u) != api.ErrArg {
			t.Fatal(i, "may be")
		}
		if offset.Ordered(u) {
			t.Error("Ordered", i)
		}
		for id := range end + 3 {
			noOf(t, u, id-1, api.ErrArg)
			noPut(t, u, id-1, 2, 99, api.ErrArg)
			noAdd(t, u, id-1, 2, 99, api.ErrArg)
			noDiff(t, u, id-1, x, 0, api.ErrArg)
			noDiff(t, u, x, id-1, 0, api.ErrArg)
			noLe(t, u, id-1, y, 0, 99, api.ErrArg)
			noLe(t, u, y, id-1, 0, 99, api.ErrArg)
		}
		noPut(t, u, x, most+1, 0, api.ErrArg) // ahead of all others
		noAdd(t, u, p, most+1, 0, api.ErrArg)
		noDiff(t, u, p, p, most+1, api.ErrArg)
		noLe(t, u, p, p, most+1, 0, api.ErrArg)
	}
}

// sums are numbers from a node on, and what they are together.
var sums = []struct {
	l []int
	n int
	e api.Errno
}{
	{[]int{most}, most, api.OK},
	{[]int{-most}, -most, api.OK},
	{[]int{most, 1}, 0, api.ErrOver},
	{[]int{-most, -1}, 0, api.ErrOver},
	{[]int{most, -1}, most - 1, api.OK},
	{[]int{most - 1, 1}, most, api.OK},
	{[]int{1, most - 1}, most, api.OK},
	{[]int{1 - most, -1}, -most, api.OK},
	{[]int{most - 1, 2}, 0, api.ErrOver},
	{[]int{1 - most, -2}, 0, api.ErrOver},
	{[]int{most, 1, -1}, 0, api.ErrOver}, // they leave the numbers that may be, and come back
	{[]int{-most, -1, 1}, 0, api.ErrOver},
	{[]int{most - 1, 2, -1}, 0, api.ErrOver},
	{[]int{most, 0, 1, -1}, 0, api.ErrOver},
	{[]int{-most, 0, -1, 1, 0}, 0, api.ErrOver},
	{[]int{most, 1, -most, -1}, 0, api.ErrOver},
	{[]int{5, most, -most}, 0, api.ErrOver},
	{[]int{-5, -most, most, 5}, 0, api.ErrOver},
	{[]int{most, -1, 1}, most, api.OK}, // these do not, though those of some do that they stand upon
	{[]int{-most, 1, -1}, -most, api.OK},
	{[]int{-1, most, 1}, most, api.OK},
	{[]int{1, -most, -1}, -most, api.OK},
	{[]int{1, most, -1}, 0, api.ErrOver}, // and these do, though those of none do
	{[]int{-1, -most, 1}, 0, api.ErrOver},
	{[]int{most, -most}, 0, api.OK},
	{[]int{most, -most, -most, most}, 0, api.OK},
	{[]int{most, -most, -most}, -most, api.OK},
	{[]int{most, -most, -most, -1}, 0, api.ErrOver},
	{[]int{most, most}, 0, api.ErrOver},
	{[]int{-most, -most}, 0, api.ErrOver},
	{[]int{most, most, most, most}, 0, api.ErrOver}, // 2^64
	{[]int{-most, -most, -most, -most}, 0, api.ErrOver},
	{[]int{most, most, -most, -most}, 0, api.ErrOver},
	{[]int{-most, -most, most, most}, 0, api.ErrOver},
}

// P11.1: the sums are those from the node on, one by one.
func TestOfOneByOne(t *testing.T) {
	for _, c := range sums {
		u, at := upon(base(), x, c.l...)
		last := len(c.l) - 1
		v, low := put(base(), number(c.l[last]))
		v, end := upon(v, low, c.l[:last]...)
		sound(t, u)
		sound(t, v)
		if c.e != api.OK {
			noOf(t, u, at, c.e)
			noOf(t, v, end, c.e)
			continue
		}
		isOf(t, u, at, x, c.n)
		isOf(t, v, end, api.Zero, c.n)
	}
}

// P11.1: a node's Sort is asked for ahead of its sums, and no other one's.
func TestOfSorts(t *testing.T) {
	u, at := upon(base(), x, most, 1)
	noOf(t, u, at, api.ErrOver)
	noOf(t, with(u, of(api.Bool, plus(at, 0))), at+1, api.ErrSort)
	noOf(t, with(u, of(api.Own, plus(x, 1))), at+1, api.ErrSort)
	noOf(t, with(u, of(api.Own, number(7))), at+1, api.ErrSort)
	noOf(t, with(u, of(api.Bool, number(0))), at+1, api.ErrSort)
	isOf(t, with(u, of(api.Int, not(p))), at+1, at+1, 0)
	isOf(t, with(base(), of(api.Bool, plus(x, 4)), plus(end, 2)), end+1, x, 6)
	isOf(t, with(base(), of(api.Own, number(4)), plus(end, 2)), end+1, api.Zero, 6)
	isOf(t, with(base(), plus(p, 2)), end, p, 2)
	isOf(t, with(base(), plus(api.True, 2)), end, api.True, 2)
}

// P11.1: what is in order.
func TestOrdered(t *testing.T) {
	u := table(
		app(0, api.Int),
		app(1, api.Int),
		app(2, api.Bool),
		plus(x, 1),
		plus(x, -1),
		plus(x, most),
		plus(y, 1),
		number(1),
		number(-1),
		number(-most),
		app(4, api.Int, 5), // of x + 1, and of 1
		app(4, api.Int, 9),
		plus(12, 1),
		api.Node{Op: api.OpIte, Len: 3, Args: args(4, 5, 9), Sort: api.Int},
		plus(15, 1),
		less(x, y, 0),
		less(5, 6, 0), // of one base, and of a number: nothing is said of these
		less(x, 9, 0),
	)
	sound(t, u)
	for n := 2; n <= len(u.Nodes); n++ {
		if !offset.Ordered(api.Table{Nodes: u.Nodes[:n]}) {
			t.Error(n)
		}
	}
	if offset.Ordered(base()) || !offset.Ordered(term.New()) {
		t.Error("base, New")
	}
	for _, n := range []api.Node{
		plus(x, 0),
		plus(15, 0),
		plus(5, 1), // upon an OpAdd
		plus(5, -1),
		plus(16, 1),
		plus(9, 1), // upon an OpNum
		plus(11, 1),
		plus(api.Zero, 1),
		plus(api.Zero, 0),
		plus(5, 0),
		plus(9, 0),
	} {
		for _, w := range []api.Table{with(u, n), with(u, n, number(99), app(9, api.Int))} {
			sound(t, w)
			if offset.Ordered(w) {
				t.Error(n)
			}
		}
	}
	for _, n := range []api.Node{plus(x, 2), plus(12, -1), plus(13, 1), plus(15, most), number(2), app(5, api.Int, 16), plus(4, 1), plus(17, 3)} {
		if w := with(u, n); term.Check(w) != api.OK || !offset.Ordered(w) {
			t.Error(n)
		}
	}
}

// P11.1: one that is not in order only by its first node behind Zero.
func TestOrderedFirst(t *testing.T) {
	for _, u := range []api.Table{table(plus(api.Zero, 3), app(0, api.Int), plus(3, 1)), table(plus(api.True, 0), app(0, api.Int))} {
		sound(t, u)
		if offset.Ordered(u) {
			t.Error(u)
		}
	}
}

// holdPut asks for a table of w's nodes and a place.
func holdPut(t *testing.T, what string, o api.Table, at int, e api.Errno, w api.Table, want int) {
	t.Helper()
	if e != api.OK || at != want || !slices.Equal(o.Nodes, w.Nodes) {
		t.Error(what, o, at, e, "not", w, want)
	}
}

func isPut(t *testing.T, u api.Table, base, n, room int, w api.Table, want int) {
	t.Helper()
	sound(t, u)
	o, at, e := offset.Put(u, base, n, room)
	holdPut(t, "Put", o, at, e, w, want)
}

func isAdd(t *testing.T, u api.Table, id, n, room int, w api.Table, want int) {
	t.Helper()
	sound(t, u)
	o, at, e := offset.Add(u, id, n, room)
	holdPut(t, "Add", o, at, e, w, want)
}

func noPut(t *testing.T, u api.Table, base, n, room int, want api.Errno) {
	t.Helper()
	if o, at, e := offset.Put(u, base, n, room); e != want || at != 0 || o.Nodes != nil {
		t.Error("Put", base, n, room, o, at, e, "not", want)
	}
}

func noAdd(t *testing.T, u api.Table, id, n, room int, want api.Errno) {
	t.Helper()
	if o, at, e := offset.Add(u, id, n, room); e != want || at != 0 || o.Nodes != nil {
		t.Error("Add", id, n, room, o, at, e, "not", want)
	}
}

// P11.2: the node of a base and an offset, new or there already.
func TestPut(t *testing.T) {
	u := base()
	for _, n := range []int{2, -1, 3, most, -most} {
		isPut(t, u, x, n, 99, with(u, plus(x, n)), end)
		isPut(t, u, f, n, 99, with(u, plus(f, n)), end)
		isPut(t, u, ite, n, 99, with(u, plus(ite, n)), end)
		isPut(t, u, api.Zero, n, 99, with(u, number(n)), end)
	}
	isPut(t, u, x, 1, 99, u, x1)
	isPut(t, u, y, 5, 99, u, y5)
	isPut(t, u, f, -2, 99, u, f2)
	isPut(t, u, ite, 9, 99, u, ite9)
	isPut(t, u, api.Zero, 7, 99, u, seven)
	for _, at := range []int{api.Zero, x, y, f, ite} {
		isPut(t, u, at, 0, 99, u, at)
	}
	isPut(t, table(), api.Zero, 0, 99, table(), api.Zero)
	isPut(t, table(), api.Zero, 1, 99, table(number(1)), 2)
	// four and x12 are of these offsets, but not the nodes of them
	isPut(t, u, api.Zero, 4, 99, with(u, number(4)), end)
	isPut(t, u, x, 3, 99, with(u, plus(x, 3)), end)
}

// P11.2: as many nodes as may be.
func TestPutMany(t *testing.T) {
	u := base()
	for _, room := range []int{math.MinInt, -1, 0, 1, end - 1, end} {
		isPut(t, u, x, 1, room, u, x1)
		isPut(t, u, x, 0, room, u, x)
		isPut(t, u, api.Zero, 7, room, u, seven)
		isPut(t, u, api.Zero, 0, room, u, api.Zero)
		noPut(t, u, x, 2, room, api.ErrMany)
		noPut(t, u, api.Zero, 8, room, api.ErrMany)
		isAdd(t, u, x12, -2, room, u, x1)
		isAdd(t, u, x12, -3, room, u, x)
		isAdd(t, u, four, 3, room, u, seven)
		noAdd(t, u, x12, 0, room, api.ErrMany)
		noAdd(t, u, four, 0, room, api.ErrMany)
		noAdd(t, u, x, 2, room, api.ErrMany)
	}
	for _, room := range []int{end + 1, math.MaxInt} {
		isPut(t, u, x, 2, room, with(u, plus(x, 2)), end)
		isPut(t, u, api.Zero, 8, room, with(u, number(8)), end)
		isAdd(t, u, x12, 0, room, with(u, plus(x, 3)), end)
	}
}

// P11.2: the errors, in their order.
func TestPutErrors(t *testing.T) {
	u, over := upon(base(), x, most, 1)
	sound(t, u)
	for _, n := range append([]int{0, 1, -1, most}, beyond...) {
		for _, room := range []int{0, 99} {
			for _, at := range append([]int{over + 1}, far...) {
				noPut(t, u, at, n, room, api.ErrArg)
			}
			for _, at := range []int{api.True, p, s, le, diff} {
				noPut(t, u, at, n, room, api.ErrSort)
			}
			noPut(t, u, over, n, room, api.ErrOver) // Of's, ahead of that it is no base
			for _, at := range []int{x1, x12, seven, four, y5, f2, ite9} {
				noPut(t, u, at, n, room, api.ErrArg)
			}
		}
	}
	for _, n := range beyond {
		for _, at := range []int{api.Zero, x, f, ite} {
			noPut(t, u, at, n, 99, api.ErrOver)
			noPut(t, u, at, n, 0, api.ErrOver) // ahead of ErrMany
		}
	}
	u, at := upon(base(), x, 0) // of x's offset, but not x
	noPut(t, u, at, 0, 99, api.ErrArg)
	u, at = upon(base(), api.Zero, 0)
	noPut(t, u, at, 0, 99, api.ErrArg)
}

// P11.2: a number more, upon the base.
func TestAdd(t *testing.T) {
	u := base()
	for _, n := range []int{2, -1, 3, most, -most} {
		isAdd(t, u, x, n, 99, with(u, plus(x, n)), end)
		isAdd(t, u, api.Zero, n, 99, with(u, number(n)), end)
	}
	isAdd(t, u, x1, 1, 99, with(u, plus(x, 2)), end)
	isAdd(t, u, x12, 4, 99, with(u, plus(x, 7)), end)
	isAdd(t, u, x12, 0, 99, with(u, plus(x, 3)), end)
	isAdd(t, u, x12, -2, 99, u, x1)
	isAdd(t, u, x12, -3, 99, u, x)
	isAdd(t, u, x1, 0, 99, u, x1)
	isAdd(t, u, seven, 1, 99, with(u, number(8)), end)
	isAdd(t, u, seven, 0, 99, u, seven)
	isAdd(t, u, seven, -7, 99, u, api.Zero)
	isAdd(t, u, four, 3, 99, u, seven)
	isAdd(t, u, four, -4, 99, u, api.Zero)
	isAdd(t, u, four, 0, 99, with(u, number(4)), end)
	isAdd(t, u, ite9, -9, 99, u, ite)
	isAdd(t, u, ite9, 1, 99, with(u, plus(ite, 10)), end)
	isAdd(t, u, f2, 2, 99, u, f)
	isAdd(t, u, api.Zero, 7, 99, u, seven)
	isAdd(t, u, api.Zero, 0, 99, u, api.Zero)
	isAdd(t, u, x, 0, 99, u, x)
	isAdd(t, u, x, 1, 99, u, x1)
}

// P11.2: the errors, in their order.
func TestAddErrors(t *testing.T) {
	u, over := upon(base(), x, most, 1)
	sound(t, u)
	for _, n := range append([]int{0, 1, -1, most}, beyond...) {
		for _, room := range []int{0, 99} {
			for _, at := range append([]int{over + 1}, far...) {
				noAdd(t, u, at, n, room, api.ErrArg)
			}
			for _, at := range []int{api.True, p, s, le, diff} {
				noAdd(t, u, at, n, room, api.ErrSort)
			}
			noAdd(t, u, over, n, room, api.ErrOver)
		}
	}
	for _, at := range []int{api.Zero, x, x1, x12, seven, four, f2, ite9} {
		for _, n := range beyond { // f2's with one of these would be back
			noAdd(t, u, at, n, 99, api.ErrOver)
			noAdd(t, u, at, n, 0, api.ErrOver)
		}
	}
	noAdd(t, u, x12, most-2, 99, api.ErrOver)
	noAdd(t, u, x12, most-2, 0, api.ErrOver)
	noAdd(t, u, seven, most-6, 99, api.ErrOver)
	noAdd(t, u, f2, 1-most, 99, api.ErrOver)
	isAdd(t, u, x12, most-3, 99, with(u, plus(x, most)), over+1)
	isAdd(t, u, x12, -most, 99, with(u, plus(x, 3-most)), over+1)
	isAdd(t, u, seven, most-7, 99, with(u, number(most)), over+1)
	isAdd(t, u, f2, 2-most, 99, with(u, plus(f, -most)), over+1)
	// the base of what is of Int may not be so in a table that is not well sorted
	w := with(base(), plus(p, 2))
	noAdd(t, w, end, 1, 99, api.ErrSort)
	noAdd(t, w, end, -2, 0, api.ErrSort)
	noAdd(t, w, end, most, 99, api.ErrOver)
}

// P11.4: Add of Add is one Add, and Of tells what was put.
func TestAddOfAdd(t *testing.T) {
	u := base()
	for _, at := range []int{api.Zero, x, x1, x12, seven, four, ite9} {
		for _, c := range [][2]int{{1, 2}, {4, -4}, {-1, -1}, {most / 2, most / 4}, {most / 2, -most}, {0, 0}, {0, 30}, {30, 0}} {
			one, id, e := offset.Add(u, at, c[0], 99)
			if e != api.OK {
				t.Fatal(at, c, e)
			}
			two, id, e := offset.Add(one, id, c[1], 99)
			if e != api.OK {
				t.Fatal(at, c, e)
			}
			isAdd(t, one, at, c[0]+c[1], 99, two, id)
			b, n, _ := offset.Of(u, at)
			isOf(t, two, id, b, n+c[0]+c[1])
		}
	}
}

func isDiff(t *testing.T, u api.Table, a, b, c, wantX, wantY, wantD int) {
	t.Helper()
	sound(t, u)
	if x, y, d, e := offset.Diff(u, a, b, c); x != wantX || y != wantY || d != wantD || e != api.OK {
		t.Error("Diff", a, b, c, x, y, d, e, "not", wantX, wantY, wantD)
	}
}

func noDiff(t *testing.T, u api.Table, a, b, c int, want api.Errno) {
	t.Helper()
	if x, y, d, e := offset.Diff(u, a, b, c); x != 0 || y != 0 || d != 0 || e != want {
		t.Error("Diff", a, b, c, x, y, d, e, "not", want)
	}
}

// isLe asks for a table of w's nodes, a place, and whether it is a difference.
func isLe(t *testing.T, u api.Table, a, b, c, room int, w api.Table, want int, is bool) {
	t.Helper()
	sound(t, u)
	o, at, got, e := offset.Le(u, a, b, c, room)
	holdPut(t, "Le", o, at, e, w, want)
	if got != is {
		t.Error("Le", a, b, c, got)
	}
}

func noLe(t *testing.T, u api.Table, a, b, c, room int, want api.Errno) {
	t.Helper()
	if o, at, is, e := offset.Le(u, a, b, c, room); e != want || at != 0 || is || o.Nodes != nil {
		t.Error("Le", a, b, c, room, o, at, is, e, "not", want)
	}
}

// P11.3: of bases and of offsets, of one base and of two.
func TestDiff(t *testing.T) {
	u := base()
	isDiff(t, u, x, y, 3, x, y, 3)
	isDiff(t, u, y, x, 3, y, x, 3)
	isDiff(t, u, x1, y, 3, x, y, 2)
	isDiff(t, u, x, y5, 3, x, y, 8)
	isDiff(t, u, x12, y5, -1, x, y, 1)
	isDiff(t, u, y5, x12, -1, y, x, -3)
	isDiff(t, u, seven, x1, 0, api.Zero, x, -6)
	isDiff(t, u, x1, seven, 0, x, api.Zero, 6)
	isDiff(t, u, ite9, f2, 1, ite, f, -10)
	isDiff(t, u, x1, x12, 0, x, x, 2)
	isDiff(t, u, x12, x1, 0, x, x, -2)
	isDiff(t, u, x12, x12, 5, x, x, 5)
	isDiff(t, u, seven, four, 1, api.Zero, api.Zero, -2)
	isDiff(t, u, api.Zero, api.Zero, 0, api.Zero, api.Zero, 0)
	isDiff(t, u, api.Zero, seven, -7, api.Zero, api.Zero, 0)
}

// P11.3: the errors, in their order.
func TestDiffErrors(t *testing.T) {
	u, over := upon(base(), x, most, 1)
	v, overs := upon(u, seven, -most, -9)
	sound(t, v)
	bad := []struct {
		id int
		e  api.Errno
	}{{overs + 1, api.ErrArg}, {-1, api.ErrArg}, {math.MaxInt, api.ErrArg}, {math.MinInt, api.ErrArg},
		{api.True, api.ErrSort}, {p, api.ErrSort}, {s, api.ErrSort}, {diff, api.ErrSort}, {over, api.ErrOver}, {overs, api.ErrOver}}
	for _, c := range append([]int{0, most, -most}, beyond...) {
		for _, a := range bad {
			for _, b := range bad {
				noDiff(t, v, a.id, b.id, c, a.e)
				noLe(t, v, a.id, b.id, c, 0, a.e)
			}
			for _, b := range []int{x, x12, seven, api.Zero} {
				noDiff(t, v, a.id, b, c, a.e)
				noDiff(t, v, b, a.id, c, a.e)
				noLe(t, v, a.id, b, c, 0, a.e)
				noLe(t, v, b, a.id, c, 99, a.e)
			}
		}
	}
	for _, c := range beyond {
		for _, a := range []int{x, x12, seven, f2, api.Zero} {
			for _, b := range []int{x, y5, seven, f2, api.Zero} {
				noDiff(t, v, a, b, c, api.ErrOver) // though an offset would bring it back
				noLe(t, v, a, b, c, 99, api.ErrOver)
			}
		}
	}
}

// P11.3: the two sums, just within the numbers that may be and just past them.
func TestDiffSums(t *testing.T) {
	for _, k := range []struct {
		c, first, second int
		d                int
		e                api.Errno
	}{
		{most, 1, 1, most, api.OK},
		{most, -1, 1, 0, api.ErrOver},
		{most, -1, -1, 0, api.ErrOver}, // the second one would bring it back
		{most, -1, -9, 0, api.ErrOver},
		{most, 1, 2, 0, api.ErrOver},
		{most, 1, -1, most - 2, api.OK},
		{most - 1, -1, -1, most - 1, api.OK},
		{most - 1, -1, 1, 0, api.ErrOver},
		{-most, -1, -1, -most, api.OK},
		{-most, 1, -1, 0, api.ErrOver},
		{-most, 1, 1, 0, api.ErrOver},
		{-most, 1, 9, 0, api.ErrOver},
		{-most, -1, -2, 0, api.ErrOver},
		{-most, -1, 1, 2 - most, api.OK},
		{1 - most, 1, 1, 1 - most, api.OK},
		{1 - most, 1, -1, 0, api.ErrOver},
		{-1, -most, 1, most, api.OK},
		{-1, -most, 2, 0, api.ErrOver},
		{1, most, -1, -most, api.OK},
		{1, most, -2, 0, api.ErrOver},
		{1, -most, -1, 0, api.ErrOver},
		{-1, most, 1, 0, api.ErrOver},
		{5, 5, most, most, api.OK},
		{5, 4, most, 0, api.ErrOver},
		{5, 5, -most, -most, api.OK},
		{5, 6, -most, 0, api.ErrOver},
		{most, most, most, most, api.OK},
		{most, most, -most, -most, api.OK},
		{most, -most, -most, 0, api.ErrOver}, // 2^63
		{-most, most, most, 0, api.ErrOver},
		{-most, -most, -most, -most, api.OK},
		{0, -most, -most, 0, api.OK},
		{0, most, most, 0, api.OK},
		{0, -most, most, 0, api.ErrOver},
		{0, most, -most, 0, api.ErrOver},
		{most, -most, most, 0, api.ErrOver},
	} {
		u := table(app(0, api.Int), app(1, api.Int), plus(x, k.first), plus(y, k.second))
		a, b := 4, 5
		if k.e != api.OK {
			noDiff(t, u, a, b, k.c, k.e)
			noLe(t, u, a, b, k.c, 99, k.e)
			noLe(t, u, a, b, k.c, 0, k.e) // ahead of ErrMany
			continue
		}
		isDiff(t, u, a, b, k.c, x, y, k.d)
		isLe(t, u, a, b, k.c, 99, with(u, less(x, y, k.d)), len(u.Nodes), true)
		noLe(t, u, a, b, k.c, 0, api.ErrMany)
	}
}

// P11.3: of two bases, a difference.
func TestLe(t *testing.T) {
	u := base()
	isLe(t, u, x, y, 4, 99, with(u, less(x, y, 4)), end, true)
	isLe(t, u, x, y, -4, 99, with(u, less(x, y, -4)), end, true)
	isLe(t, u, x, y, 0, 99, with(u, less(x, y, 0)), end, true)
	isLe(t, u, y, x, 3, 99, with(u, less(y, x, 3)), end, true)
	isLe(t, u, x12, y5, 3, 99, with(u, less(x, y, 5)), end, true)
	isLe(t, u, x12, seven, 3, 99, with(u, less(x, api.Zero, 7)), end, true)
	isLe(t, u, four, x, 3, 99, with(u, less(api.Zero, x, -1)), end, true)
	isLe(t, u, ite9, f2, 1, 99, with(u, less(ite, f, -10)), end, true)
	for _, room := range []int{math.MinInt, 0, end - 1, end} {
		isLe(t, u, x, y, 3, room, u, diff, true) // which is there
		isLe(t, u, x1, y, 4, room, u, diff, true)
		isLe(t, u, x12, y5, 1, room, u, diff, true)
		noLe(t, u, x, y, 4, room, api.ErrMany)
		noLe(t, u, y, x, 3, room, api.ErrMany)
		noLe(t, u, x1, y, 3, room, api.ErrMany)
	}
	isLe(t, u, x, y, 4, end+1, with(u, less(x, y, 4)), end, true)
}

// P11.3: of one base, it is true or false.
func TestLeOfOneBase(t *testing.T) {
	u := base()
	v := with(u, not(api.True), less(x, y, 4))
	for _, c := range []struct {
		a, b, least int // the least c by which it holds
	}{{x, x, 0}, {x12, x12, 0}, {x1, x12, -2}, {x12, x1, 2}, {x, x12, -3}, {seven, four, 3}, {four, seven, -3}, {api.Zero, seven, -7},
		{seven, api.Zero, 7}, {api.Zero, api.Zero, 0}, {ite9, ite, 9}, {f2, f, -2}, {seven, seven, 0}} {
		for n := range 5 {
			for _, room := range []int{math.MinInt, 0, end, end + 1, 99} {
				isLe(t, u, c.a, c.b, c.least+n, room, u, api.True, false)
				isLe(t, v, c.a, c.b, c.least+n, room, v, api.True, false)
				isLe(t, v, c.a, c.b, c.least-1-n, room, v, end, false)
			}
			for _, room := range []int{math.MinInt, 0, end - 1, end} {
				noLe(t, u, c.a, c.b, c.least-1-n, room, api.ErrMany)
			}
			for _, room := range []int{end + 1, 99} {
				isLe(t, u, c.a, c.b, c.least-1-n, room, with(u, not(api.True)), end, false)
			}
		}
	}
	isLe(t, u, x, x, most, 0, u, api.True, false)
	isLe(t, u, x, x, -most, 99, with(u, not(api.True)), end, false)
}

// P11.4: what is put into a table that is in order leaves it so.
func TestStaysInOrder(t *testing.T) {
	u := term.New()
	u = with(u, app(0, api.Int), app(1, api.Int))
	keep := func(o api.Table, e api.Errno) {
		t.Helper()
		if e != api.OK || !offset.Ordered(o) {
			t.Fatal(o, e)
		}
		u = o
	}
	for _, n := range []int{0, 5, -5, most, -most} {
		for _, at := range []int{api.Zero, x, y} {
			o, _, e := offset.Put(u, at, n, 99)
			keep(o, e)
		}
	}
	for at := range len(u.Nodes) {
		if u.Nodes[at].Sort != api.Int {
			continue
		}
		_, n, _ := offset.Of(u, at)
		more, bounds := []int{0, -n, 1 - n, -1 - n}, []int{0, 1, -1}
		if n == most || n == -most {
			more, bounds = []int{-n}, []int{0}
		}
		for _, k := range more {
			o, _, e := offset.Add(u, at, k, 99)
			keep(o, e)
		}
		for _, c := range bounds {
			o, _, _, e := offset.Le(u, at, at, c, 99)
			keep(o, e)
			o, _, _, e = offset.Le(u, at, x, 0, 99)
			keep(o, e)
		}
	}
	// one node for each base and offset
	seen := map[[2]int]int{}
	for at, n := range u.Nodes {
		if n.Sort != api.Int {
			continue
		}
		b, k, e := offset.Of(u, at)
		if w, there := seen[[2]int{b, k}]; e != api.OK || there {
			t.Error(at, w, e)
		}
		seen[[2]int{b, k}] = at
		isPut(t, u, b, k, 0, u, at)
	}
}

// roomy is u with spare room behind, and that room.
func roomy(u api.Table) (api.Table, []api.Node) {
	l := make([]api.Node, len(u.Nodes), len(u.Nodes)+8)
	copy(l, u.Nodes)
	room := l[len(l):cap(l)]
	for i := range room {
		room[i] = number(1000 + i)
	}
	return api.Table{Nodes: l}, room
}

// calls are some of all calls that answer a table, those that put something and
// those that do not.
func calls(u api.Table) (l []api.Table) {
	keep := func(o api.Table) { l = append(l, o) }
	for _, id := range []int{api.True, api.Zero, x, x12, seven, p, 99} {
		for _, n := range []int{0, 1, 7, -3, most} {
			for _, room := range []int{0, 99} {
				o, _, _ := offset.Put(u, id, n, room)
				keep(o)
				o, _, _ = offset.Add(u, id, n, room)
				keep(o)
				o, _, _, _ = offset.Le(u, id, x, n, room)
				keep(o)
				o, _, _, _ = offset.Le(u, y, id, n, room)
				keep(o)
			}
		}
		offset.Of(u, id)
		offset.Diff(u, id, x, 5)
	}
	offset.Ordered(u)
	return l
}

// R4: what is handed in is as it was, the room behind it too; an answer shares
// no memory with it, or with another answer.
func TestMemory(t *testing.T) {
	u, room := roomy(with(base(), not(api.True)))
	was, wasRoom := slices.Clone(u.Nodes), slices.Clone(room)
	same := func(what string) {
		t.Helper()
		if !slices.Equal(u.Nodes, was) || !slices.Equal(room, wasRoom) {
			t.Fatal(what)
		}
	}
	l := calls(u)
	same("changed")
	want := calls(api.Table{Nodes: slices.Clone(was)})
	for i, o := range l {
		if !slices.Equal(o.Nodes, want[i].Nodes) {
			t.Fatal("room counts", i)
		}
		all := o.Nodes[:cap(o.Nodes)]
		for k := range all {
			all[k] = number(-5000 - i)
		}
		same("shared")
		for k, w := range l[i+1:] {
			if !slices.Equal(w.Nodes, want[i+1+k].Nodes) {
				t.Fatal("shared by two", i, k)
			}
		}
	}
	l = calls(u) // nor is anything kept
	for i, o := range l {
		if !slices.Equal(o.Nodes, want[i].Nodes) {
			t.Fatal("kept", i)
		}
	}
	for k := range u.Nodes {
		u.Nodes[k] = number(-9)
	}
	for i, o := range l {
		if !slices.Equal(o.Nodes, want[i].Nodes) {
			t.Fatal("hangs on what was handed in", i)
		}
	}
}

// R1: a long row of OpAdds, each upon the one ahead.
func TestLongChain(t *testing.T) {
	const n = 200000
	u := table(app(0, api.Int))
	for range n {
		u.Nodes = append(u.Nodes, plus(len(u.Nodes)-1, 3))
	}
	last := len(u.Nodes) - 1
	isOf(t, u, last, x, 3*n)
	if offset.Ordered(u) || !offset.Ordered(api.Table{Nodes: u.Nodes[:4]}) {
		t.Error("Ordered")
	}
	isDiff(t, u, last, last-n, 3*n-1, x, x, -1)
	isAdd(t, u, last, 3-3*n, 0, u, x+1)
	isLe(t, u, last-1, last, -3, 0, u, api.True, false)
}
