package trail_test

import (
	"math"
	"slices"
	"testing"

	"gantry/api"
	"gantry/atoms"
	"gantry/trail"
)

// What the chapter says of how many nodes and levels there may be.
const (
	mostNodes  = 1 << 16
	mostLevels = 1 << 16
)

// none is the reason of what was decided, or given; the level and the reason of
// what is open.
const none = -1

// far are numbers that are no node of any trail, but of the greatest ones.
var far = []int{math.MinInt, math.MinInt + 1, math.MinInt32 - 1, math.MinInt32, -mostNodes, -2, -1, mostNodes, mostNodes + 1, math.MaxInt32, math.MaxInt32 + 1, 1 << 32, 1<<32 + 1, 1 << 40, 1 << 62, math.MaxInt - 1, math.MaxInt}

// ok fails, if that is an error.
func ok(t *testing.T, e api.Errno) {
	t.Helper()
	if e != api.OK {
		t.Fatal(e)
	}
}

// alike fails, unless these are the same, number by number.
func alike[T comparable](t *testing.T, what string, got []T, want ...T) {
	t.Helper()
	if !slices.Equal(got, want) {
		t.Error(what, got, "not", want)
	}
}

// begin has so many levels begun.
func begin(t *testing.T, x *trail.Trail, n int) {
	t.Helper()
	for range n {
		ok(t, x.Begin())
	}
}

// made has the literals of each row put at a level of its own, the first ones at
// 0, all decided.
func made(t *testing.T, n int, levels ...[]int) *trail.Trail {
	t.Helper()
	x := trail.New(n)
	for level, l := range levels {
		if level > 0 {
			ok(t, x.Begin())
		}
		for _, lit := range l {
			ok(t, x.Put(lit, none))
		}
	}
	return x
}

// isOpen fails, unless a node has no value, or is none.
func isOpen(t *testing.T, x *trail.Trail, node int) {
	t.Helper()
	for _, neg := range []bool{false, true} {
		lit := atoms.Make(node, neg)
		if atoms.Node(lit) != node {
			continue // a node so far off has no literals: their numbers go round
		}
		if v := x.Val(lit); v != 0 {
			t.Error("Val", node, neg, v)
		}
	}
	if x.Level(node) != none || x.Reason(node) != none {
		t.Error("open", node, x.Level(node), x.Reason(node))
	}
}

// isPut fails, unless a literal is true, its Neg false, by that level and reason.
func isPut(t *testing.T, x *trail.Trail, lit, level, reason int) {
	t.Helper()
	if x.Val(lit) != 1 || x.Val(atoms.Neg(lit)) != 2 {
		t.Error("Val", lit, x.Val(lit), x.Val(atoms.Neg(lit)))
	}
	node := atoms.Node(lit)
	if x.Level(node) != level || x.Reason(node) != reason {
		t.Error("put", lit, x.Level(node), x.Reason(node), "not", level, reason)
	}
}

// empty fails, unless nothing is put and no level begun.
func empty(t *testing.T, x *trail.Trail, n int) {
	t.Helper()
	if x.Levels() != 0 || len(x.All()) != 0 || len(x.Behind(0)) != 0 || len(x.Behind(-1)) != 0 {
		t.Error("not empty", x.Levels(), x.All())
	}
	alike(t, "Values", x.Values(), make([]int8, n)...)
	for node := -2; node < n+2; node++ {
		isOpen(t, x, node)
	}
}

// The chapter's example.
func TestExample(t *testing.T) {
	x := trail.New(3)
	ok(t, x.Begin())
	ok(t, x.Put(5, none))
	if v := x.Val(4); v != 2 {
		t.Error(v)
	}
	l, e := x.Back(0)
	ok(t, e)
	alike(t, "Back", l, 5)
	if v := x.Val(4); v != 0 {
		t.Error(v)
	}
}

// P19.1: how many nodes there may be; nothing is put, and no level begun.
func TestNew(t *testing.T) {
	for _, n := range far {
		if (trail.New(n) == nil) != (n != mostNodes) {
			t.Error(n)
		}
	}
	for _, n := range []int{0, 1, 2, 3, 17, mostNodes - 1, mostNodes} {
		x := trail.New(n)
		if x == nil {
			t.Fatal(n)
		}
		empty(t, x, n)
		for _, lit := range []int{-1, -2, 2 * n, 2*n + 1} {
			if e := x.Put(lit, none); e != api.ErrArg {
				t.Error("no node", n, lit, e)
			}
		}
		if n > 0 {
			ok(t, x.Put(2*n-1, 0))
			isPut(t, x, 2*n-1, 0, 0)
		}
		if n > 1 {
			ok(t, x.Put(0, 0))
			isPut(t, x, 0, 0, 0)
		}
	}
}

// P19.1: what is put has a level, that was begun last, and a reason; others have
// none.
func TestPut(t *testing.T) {
	x := trail.New(9)
	var lits []int
	for i, c := range []struct{ begin, lit, reason, level int }{
		{0, 3, 7, 0},
		{0, 14, none, 0}, // given
		{1, 4, none, 1},
		{0, 0, 5, 1},
		{0, 16, 0, 1},
		{2, 9, none, 3}, // at 2 there is nothing
		{0, 7, math.MaxInt, 3},
		{1, 11, 1 << 40, 4},
		{0, 12, math.MaxInt32 + 1, 4},
	} {
		isOpen(t, x, atoms.Node(c.lit))
		begin(t, x, c.begin)
		ok(t, x.Put(c.lit, c.reason))
		lits = append(lits, c.lit)
		isPut(t, x, c.lit, c.level, c.reason)
		alike(t, "All", x.All(), lits...)
		if x.Levels() != c.level {
			t.Error(i, x.Levels(), "not", c.level)
		}
	}
	// Nothing of what was put ahead is another by now.
	isPut(t, x, 3, 0, 7)
	isPut(t, x, 14, 0, none)
	isPut(t, x, 16, 1, 0)
	isPut(t, x, 9, 3, none)
	alike(t, "Values", x.Values(), 1, 2, 1, 2, 2, 2, 1, 1, 1)
}

// P19.1: what may not be put, which error goes ahead, and that it changes nothing.
func TestPutErrors(t *testing.T) {
	x := made(t, 4, []int{3}, []int{6}, []int{})
	for _, lit := range append(slices.Clone(far), 8, 9) {
		for _, reason := range []int{none, 0, 7, -2, math.MinInt} {
			if e := x.Put(lit, reason); e != api.ErrArg {
				t.Error("literal", lit, reason, e)
			}
		}
	}
	for _, reason := range []int{-2, -3, math.MinInt32, math.MinInt, math.MinInt + 1} {
		for lit := range 8 { // open or not
			if e := x.Put(lit, reason); e != api.ErrArg {
				t.Error("reason", lit, reason, e)
			}
		}
	}
	for _, lit := range []int{2, 3, 6, 7} { // the same literal, or its Neg
		for _, reason := range []int{none, 0, math.MaxInt} {
			if e := x.Put(lit, reason); e != api.ErrThere {
				t.Error("value", lit, reason, e)
			}
		}
	}
	alike(t, "All", x.All(), 3, 6)
	alike(t, "Values", x.Values(), 0, 2, 0, 1)
	isPut(t, x, 3, 0, none)
	isPut(t, x, 6, 1, none)
	isOpen(t, x, 0)
	isOpen(t, x, 2)
	if x.Levels() != 2 {
		t.Error(x.Levels())
	}
}

// P19.1: how many levels there may be.
func TestBegin(t *testing.T) {
	x := trail.New(3)
	for n := range mostLevels {
		if x.Levels() != n {
			t.Fatal(n, x.Levels())
		}
		ok(t, x.Begin())
	}
	ok(t, x.Put(3, 8))
	for range 3 {
		if e := x.Begin(); e != api.ErrArg || x.Levels() != mostLevels {
			t.Error(e, x.Levels())
		}
	}
	ok(t, x.Put(4, none))
	isPut(t, x, 3, mostLevels, 8)
	isPut(t, x, 4, mostLevels, none)
	if l, e := x.Back(mostLevels + 1); len(l) != 0 || e != api.ErrArg {
		t.Error(l, e)
	}
	l, e := x.Back(mostLevels)
	ok(t, e)
	alike(t, "none is greater", l)
	l, e = x.Back(mostLevels - 1)
	ok(t, e)
	alike(t, "the last level", l, 4, 3)
	ok(t, x.Begin()) // there is room for one again
	if e := x.Begin(); e != api.ErrArg || x.Levels() != mostLevels {
		t.Error(e, x.Levels())
	}
}

// P19.1: how many levels there may be hangs on no nodes.
func TestBeginEmpty(t *testing.T) {
	x := trail.New(0)
	begin(t, x, mostLevels)
	if e := x.Begin(); e != api.ErrArg || x.Levels() != mostLevels {
		t.Error(e, x.Levels())
	}
	l, e := x.Back(0)
	ok(t, e)
	alike(t, "Back", l)
	empty(t, x, 0)
}

// P19.1: what goes back, the last one first, and what is left.
func TestBack(t *testing.T) {
	levels := [][]int{{3, 18}, {4, 0, 10}, {}, {9, 6}, {}, {15}, {}}
	for _, c := range []struct {
		level      int
		gone, left []int
		vals       []int8
	}{
		{6, nil, []int{3, 18, 4, 0, 10, 9, 6, 15}, []int8{1, 2, 1, 1, 2, 1, 0, 2, 0, 1}},
		{5, nil, []int{3, 18, 4, 0, 10, 9, 6, 15}, []int8{1, 2, 1, 1, 2, 1, 0, 2, 0, 1}},
		{4, []int{15}, []int{3, 18, 4, 0, 10, 9, 6}, []int8{1, 2, 1, 1, 2, 1, 0, 0, 0, 1}},
		{3, []int{15}, []int{3, 18, 4, 0, 10, 9, 6}, []int8{1, 2, 1, 1, 2, 1, 0, 0, 0, 1}},
		{2, []int{15, 6, 9}, []int{3, 18, 4, 0, 10}, []int8{1, 2, 1, 0, 0, 1, 0, 0, 0, 1}},
		{1, []int{15, 6, 9}, []int{3, 18, 4, 0, 10}, []int8{1, 2, 1, 0, 0, 1, 0, 0, 0, 1}},
		{0, []int{15, 6, 9, 10, 0, 4}, []int{3, 18}, []int8{0, 2, 0, 0, 0, 0, 0, 0, 0, 1}},
	} {
		x := made(t, 10, levels...)
		l, e := x.Back(c.level)
		ok(t, e)
		alike(t, "gone", l, c.gone...)
		alike(t, "left", x.All(), c.left...)
		alike(t, "Values", x.Values(), c.vals...)
		for _, lit := range c.gone {
			isOpen(t, x, atoms.Node(lit))
		}
		if x.Levels() != c.level {
			t.Error(x.Levels(), "not", c.level)
		}
		// What is put now is at that level, and what is there has its own.
		ok(t, x.Put(16, 4))
		isPut(t, x, 16, c.level, 4)
		isPut(t, x, 18, 0, none)
		l, e = x.Back(c.level) // nothing is greater any more
		ok(t, e)
		alike(t, "again", l)
		isPut(t, x, 16, c.level, 4)
	}
}

// P19.1: level by level, and what is of level 0 never goes.
func TestBackSteps(t *testing.T) {
	x := made(t, 5, []int{9}, []int{6}, []int{2, 1}, []int{5})
	for _, c := range []struct {
		level int
		gone  []int
	}{{3, nil}, {2, []int{5}}, {1, []int{1, 2}}, {0, []int{6}}, {0, nil}} {
		l, e := x.Back(c.level)
		ok(t, e)
		alike(t, "gone", l, c.gone...)
		if x.Levels() != c.level {
			t.Error(x.Levels(), "not", c.level)
		}
	}
	alike(t, "All", x.All(), 9)
	isPut(t, x, 9, 0, none)
}

// P19.1: levels that there are not; nothing is changed by that.
func TestBackErrors(t *testing.T) {
	x := made(t, 3, []int{1}, []int{2}, []int{})
	for _, level := range append(slices.Clone(far), 3, 4) {
		if l, e := x.Back(level); len(l) != 0 || e != api.ErrArg {
			t.Error(level, l, e)
		}
	}
	alike(t, "All", x.All(), 1, 2)
	isPut(t, x, 2, 1, none)
	if x.Levels() != 2 {
		t.Error(x.Levels())
	}
	for _, level := range []int{1, -1, 7} {
		if l, e := trail.New(1).Back(level); len(l) != 0 || e != api.ErrArg {
			t.Error("none was begun", level, l, e)
		}
	}
}

// P19.2: values of literals, of their Negs, and of what is none.
func TestVal(t *testing.T) {
	x := made(t, 4, []int{2, 7}, []int{1})
	for lit, want := range []int8{2, 1, 1, 2, 0, 0, 2, 1, 0, 0} {
		if v := x.Val(lit); v != want {
			t.Error(lit, v, "not", want)
		}
	}
	for _, lit := range far {
		if v := x.Val(lit); v != 0 {
			t.Error(lit, v)
		}
		isOpen(t, x, lit)
	}
}

// P19.2: those from a place on, that is brought within.
func TestBehind(t *testing.T) {
	x := made(t, 6, []int{3, 10}, []int{}, []int{4, 9, 0})
	all := []int{3, 10, 4, 9, 0}
	alike(t, "All", x.All(), all...)
	for at := range len(all) {
		alike(t, "Behind", x.Behind(at), all[at:]...)
	}
	for _, at := range far {
		want := all
		if at > 0 {
			want = nil
		}
		alike(t, "far", x.Behind(at), want...)
	}
	alike(t, "the end", x.Behind(5))
	alike(t, "beyond it", x.Behind(6))
	if l, e := x.Back(0); e != api.OK || len(l) != 3 {
		t.Error(l, e)
	}
	alike(t, "what is left", x.Behind(1), 10)
	alike(t, "its end", x.Behind(2))
	alike(t, "what has gone", x.Behind(4))
}

// P19.2: a value of each node, in their order, whatever the order of putting.
func TestValues(t *testing.T) {
	for _, c := range []struct {
		n    int
		lits []int
		want []int8
	}{
		{0, nil, nil},
		{1, nil, []int8{0}},
		{1, []int{0}, []int8{1}},
		{1, []int{1}, []int8{2}},
		{3, []int{5}, []int8{0, 0, 2}},
		{3, []int{5, 0}, []int8{1, 0, 2}},
		{3, []int{3, 4, 1}, []int8{2, 2, 1}},
		{5, []int{8, 3}, []int8{0, 2, 0, 0, 1}},
	} {
		x := made(t, c.n, c.lits)
		alike(t, "Values", x.Values(), c.want...)
		alike(t, "All", x.All(), c.lits...)
	}
}

// P19.2, R1: of nil.
func TestNil(t *testing.T) {
	var x *trail.Trail
	empty(t, x, 0)
	if e := x.Begin(); e != api.ErrNil {
		t.Error(e)
	}
	for _, n := range append(slices.Clone(far), 0, 1) {
		if e := x.Put(n, none); e != api.ErrNil {
			t.Error("Put", n, e)
		}
		if e := x.Put(0, n); e != api.ErrNil {
			t.Error("Put 0", n, e)
		}
		if l, e := x.Back(n); len(l) != 0 || e != api.ErrNil {
			t.Error("Back", n, l, e)
		}
		isOpen(t, x, n)
		alike(t, "Behind", x.Behind(n))
	}
	empty(t, x, 0)
}

// R1: one that New has not made has no nodes.
func TestZero(t *testing.T) {
	for _, x := range []*trail.Trail{new(trail.Trail), {}, trail.New(0)} {
		for range 2 {
			empty(t, x, 0)
			for _, n := range append(slices.Clone(far), 0, 1) {
				if x.Put(n, none) != api.ErrArg || x.Put(n, -2) != api.ErrArg || x.Put(0, n) != api.ErrArg {
					t.Error("Put", n)
				}
				isOpen(t, x, n)
				alike(t, "Behind", x.Behind(n))
			}
			if l, e := x.Back(1); len(l) != 0 || e != api.ErrArg {
				t.Error(l, e)
			}
			if l, e := x.Back(-1); len(l) != 0 || e != api.ErrArg {
				t.Error(l, e)
			}
			l, e := x.Back(0)
			ok(t, e)
			alike(t, "Back", l)
			begin(t, x, 2)
			if x.Levels() != 2 || x.Put(0, none) != api.ErrArg {
				t.Error(x.Levels())
			}
			l, e = x.Back(0)
			ok(t, e)
			alike(t, "Back", l)
		}
	}
}

// R1, R3: a copy is one with what it is of, so that neither goes wrong by what is
// done with the other.
func TestCopy(t *testing.T) {
	x := made(t, 4, []int{3}, []int{4})
	c := *x
	ok(t, c.Begin())
	ok(t, c.Put(6, 2))
	isPut(t, x, 6, 2, 2)
	l, e := x.Back(0)
	ok(t, e)
	alike(t, "Back", l, 6, 4)
	alike(t, "All", c.All(), 3)
	isOpen(t, &c, 3)
	ok(t, x.Put(5, none))
	alike(t, "All", c.All(), 3, 5)
	isPut(t, &c, 5, 0, none)
}

// R3, R4: what is told is new memory, and of one trail alone.
func TestMemory(t *testing.T) {
	levels := [][]int{{3, 0}, {4}, {9, 6}}
	x, other := made(t, 5, levels...), made(t, 5, levels...)
	was, back := x.All(), x.Behind(2)
	for range 2 { // what is told is spoilt, its spare room too
		for _, l := range [][]int{x.All(), x.Behind(0), x.Behind(3)} {
			l = l[:cap(l)]
			for i := range l {
				l[i] = -9
			}
		}
		vals := x.Values()
		vals = vals[:cap(vals)]
		for i := range vals {
			vals[i] = -9
		}
		alike(t, "All", x.All(), 3, 0, 4, 9, 6)
		alike(t, "Values", x.Values(), 1, 2, 1, 1, 2)
	}
	vals := x.Values()
	gone, e := x.Back(1)
	ok(t, e)
	alike(t, "gone", gone, 6, 9)
	kept := slices.Clone(gone)
	ok(t, x.Put(7, none))
	ok(t, x.Put(8, none))
	gone = gone[:cap(gone)]
	for i := range gone {
		gone[i] = -9
	}
	alike(t, "All", x.All(), 3, 0, 4, 7, 8)
	alike(t, "kept", kept, 6, 9)
	alike(t, "what was told", was, 3, 0, 4, 9, 6)
	alike(t, "what was told behind", back, 4, 9, 6)
	alike(t, "values that were told", vals, 1, 2, 1, 1, 2)
	alike(t, "another trail", other.All(), 3, 0, 4, 9, 6)
	alike(t, "its values", other.Values(), 1, 2, 1, 1, 2)
	isPut(t, other, 9, 2, none)
}

// R3: asking changes nothing.
func TestAsking(t *testing.T) {
	x := made(t, 4, []int{3}, []int{0, 7})
	for range 3 {
		for n := -2; n < 10; n++ {
			_, _, _ = x.Val(n), x.Level(n), x.Reason(n)
			_, _, _, _ = x.Levels(), x.All(), x.Behind(n), x.Values()
		}
		alike(t, "All", x.All(), 3, 0, 7)
		alike(t, "Values", x.Values(), 1, 2, 0, 2)
		isPut(t, x, 7, 1, none)
		isOpen(t, x, 2)
		if x.Levels() != 1 {
			t.Error(x.Levels())
		}
	}
}

// P19.1, P19.2: as many nodes and levels as there may be, in little time.
func TestGreat(t *testing.T) {
	x := trail.New(mostNodes)
	for range 3 {
		var lits []int
		for i := range mostNodes { // each node at a level of its own
			lit := atoms.Make(i*5%mostNodes, i%3 == 0)
			ok(t, x.Begin())
			ok(t, x.Put(lit, i))
			lits = append(lits, lit)
		}
		for i, lit := range lits {
			if x.Val(lit) != 1 || x.Level(atoms.Node(lit)) != i+1 || x.Reason(atoms.Node(lit)) != i {
				t.Fatal(i, lit, x.Val(lit), x.Level(atoms.Node(lit)), x.Reason(atoms.Node(lit)))
			}
		}
		alike(t, "All", x.All(), lits...)
		for i := mostNodes; i > mostNodes/2; i-- { // one by one
			l, e := x.Back(i - 1)
			if e != api.OK || len(l) != 1 || l[0] != lits[i-1] {
				t.Fatal(i, l, e)
			}
		}
		l, e := x.Back(0) // and all others at once
		ok(t, e)
		slices.Reverse(l)
		alike(t, "Back", l, lits[:mostNodes/2]...)
		if x.Levels() != 0 || len(x.All()) != 0 || slices.Max(x.Values()) != 0 {
			t.Fatal(x.Levels(), len(x.All()))
		}
	}
}

// P19.1: going back often, where many stay, in little time.
func TestBackOften(t *testing.T) {
	x := trail.New(mostNodes)
	for node := range mostNodes - 1 {
		ok(t, x.Put(2*node, none))
	}
	last := 2*mostNodes - 1
	for range 1 << 18 {
		begin(t, x, 1)
		ok(t, x.Put(last, 3))
		if l, e := x.Back(0); e != api.OK || len(l) != 1 || l[0] != last || x.Val(last) != 0 {
			t.Fatal(l, e)
		}
	}
	if len(x.All()) != mostNodes-1 {
		t.Error(len(x.All()))
	}
}
