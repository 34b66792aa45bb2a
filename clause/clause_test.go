package clause_test

import (
	"math"
	"slices"
	"testing"

	"gantry/atoms"
	"gantry/clause"
)

// far are numbers that are no literal, and literals of nodes that are far off.
var far = []int{math.MinInt, math.MinInt + 1, math.MinInt32, -7, -2, -1, 1 << 20, 1<<30 + 1, math.MaxInt32, math.MaxInt - 1, math.MaxInt}

// row is one of these numbers.
func row(l ...int) []int { return l }

// values are an assignment.
func values(l ...int8) []int8 { return l }

// alike fails, unless got is want, literal by literal.
func alike(t *testing.T, what string, got, want []int) {
	t.Helper()
	if !slices.Equal(got, want) {
		t.Error(what, got, "not", want)
	}
}

// P15.2: the states' numbers.
func TestNames(t *testing.T) {
	for want, s := range []int8{clause.StTrue, clause.StFalse, clause.StUnit, clause.StOpen} {
		if int(s) != want {
			t.Error(want, s)
		}
	}
}

// P15.1: the clause of some literals.
func TestMake(t *testing.T) {
	for _, c := range []struct{ l, want []int }{
		{nil, nil},
		{row(), nil},
		{row(0), row(0)},
		{row(1), row(1)},
		{row(2, 5, 9), row(2, 5, 9)},
		{row(9, 5, 2), row(2, 5, 9)},
		{row(5, 9, 2), row(2, 5, 9)},
		{row(4, 4), row(4)},
		{row(4, 4, 4, 4), row(4)},
		{row(7, 2, 7, 3), row(2, 3, 7)}, // the chapter's example
		{row(4, 9, 4, 2, 9), row(2, 4, 9)},
		{row(4, 5), row(4, 5)}, // a literal and its Neg
		{row(5, 4), row(4, 5)},
		{row(5, 0, 4, 5, 4), row(0, 4, 5)},
		{row(-1), nil},
		{row(-1, -2, -1, math.MinInt), nil},
		{row(-1, 0), row(0)},
		{row(0, -1), row(0)},
		{row(7, 2, -3, 7, 3), row(2, 3, 7)},
		{row(-8, 6, -1, 1, 6, -8), row(1, 6)},
		{row(math.MaxInt, math.MinInt, 0, math.MaxInt-1, math.MaxInt), row(0, math.MaxInt-1, math.MaxInt)},
	} {
		o := clause.Make(c.l)
		alike(t, "Make", o, c.want)
		if !clause.Is(o) {
			t.Error("no clause", c.l, o)
		}
		alike(t, "Make of a clause", clause.Make(o), c.want)
	}
	if c := clause.Make(row(7, 2, 7, 3)); !clause.Idle(c) {
		t.Error("the example is idle", c)
	}
}

// P15.1: whether a row is a clause.
func TestIs(t *testing.T) {
	for _, c := range [][]int{
		nil, {}, {0}, {1}, {0, 1}, {2, 5}, {2, 5, 9}, {4, 5}, {0, 1, 2, 3, 4}, {0, math.MaxInt}, {math.MaxInt}, {math.MaxInt - 1, math.MaxInt},
	} {
		if !clause.Is(c) {
			t.Error("a clause", c)
		}
	}
	for _, c := range [][]int{
		{5, 2}, {1, 0}, {9, 5, 2}, {2, 9, 5}, {5, 2, 9}, {2, 2}, {0, 0}, {2, 5, 5}, {2, 2, 5}, {2, 5, 2},
		{-1}, {-2}, {math.MinInt}, {-1, 0}, {-2, -1}, {-1, 2, 5}, {0, -1}, {2, -1, 5}, {2, 5, -1}, {-1, -1},
		{math.MaxInt, math.MinInt}, {math.MinInt, math.MaxInt},
	} {
		if clause.Is(c) {
			t.Error("no clause", c)
		}
	}
}

// P15.1: whether there are a literal and its Neg.
func TestIdle(t *testing.T) {
	for _, c := range [][]int{
		{0, 1}, {1, 0}, {4, 5}, {2, 4, 5}, {4, 5, 9}, {2, 4, 5, 9}, // next to each other
		{2, 5, 4}, {4, 9, 5}, {5, 2, 4}, {4, 2, 9, 5}, {5, 0, 8, 2, 4}, // apart
		{4, 4, 5, 5}, {4, 5, 4}, {4, 4, 5}, {4, 9, 4, 9, 5},
		{math.MaxInt, 2, math.MaxInt - 1}, {math.MaxInt - 1, math.MaxInt},
		{-1, 4, -1, 5},
	} {
		if !clause.Idle(c) {
			t.Error("idle", c)
		}
	}
	for _, c := range [][]int{
		nil, {}, {0}, {1}, {4}, {5}, {2, 5}, {5, 2}, {3, 4}, {4, 3}, {1, 2, 5, 6, 9}, {9, 6, 5, 2, 1}, // 3 and 4 are of two nodes
		{4, 4}, {5, 5, 5}, {0, 2, 4, 6, 8}, {1, 3, 5, 7, 9}, {3, 4, 3, 4},
		{-1, 0}, {-1, 1}, {-4, 4}, {-5, 5, 3, -3}, {-1, -1},
		{math.MinInt, math.MaxInt}, {math.MinInt, 0, 2, math.MaxInt},
	} {
		if clause.Idle(c) {
			t.Error("not idle", c)
		}
	}
}

// P15.1: whether two rows are alike.
func TestSame(t *testing.T) {
	for _, c := range []struct {
		a, b []int
		is   bool
	}{
		{nil, nil, true},
		{nil, row(), true},
		{row(), nil, true},
		{row(0), row(0), true},
		{row(2, 5, 9), row(2, 5, 9), true},
		{row(-1, 4), row(-1, 4), true},
		{nil, row(0), false},
		{row(0), nil, false},
		{nil, row(-1), false},
		{row(2, 5), row(2, 5, 9), false},
		{row(2, 5, 9), row(2, 5), false},
		{row(2, 5, 9), row(5, 9), false},
		{row(2, 5), row(5, 2), false},
		{row(2, 5, 9), row(2, 9, 5), false},
		{row(2), row(2, 2), false},
		{row(2, 5), row(2, 4), false},
		{row(2, 5), row(3, 5), false},
		{row(0), row(1), false},
		{row(0), row(math.MinInt), false},
	} {
		if clause.Same(c.a, c.b) != c.is || clause.Same(c.b, c.a) != c.is {
			t.Error(c)
		}
	}
}

// P15.1: whether each literal of one row is one of another.
func TestWithin(t *testing.T) {
	for _, c := range []struct {
		a, b []int
		is   bool
	}{
		{nil, nil, true},
		{row(), nil, true},
		{nil, row(), true},
		{nil, row(3), true},
		{nil, row(3, 2, -1), true},
		{row(2), row(2), true},
		{row(2), row(3, 2), true},
		{row(2), row(2, 3), true},
		{row(2, 5, 9), row(2, 5, 9), true},
		{row(2, 9), row(2, 5, 9), true},
		{row(5), row(2, 5, 9), true},
		{row(9, 2), row(2, 5, 9), true},
		{row(2, 9), row(9, 5, 2), true},
		{row(9, 5, 2), row(5, 2, 9), true},
		{row(2, 2, 2), row(2), true},
		{row(2, 5, 2, 5), row(5, 5, 2), true},
		{row(math.MaxInt), row(math.MaxInt, 0), true},
		{row(-1), row(4, -1), true},
		{row(2), nil, false},
		{row(2), row(), false},
		{row(2), row(3), false}, // the Neg is another
		{row(3), row(2), false},
		{row(2, 5), row(2), false},
		{row(5, 2), row(2), false},
		{row(2, 5), row(2, 9), false},
		{row(2, 5, 9), row(2, 9), false},
		{row(2, 5, 9), row(9, 2), false},
		{row(0), row(1, 2, 3), false},
		{row(4), row(1, 2, 3), false},
		{row(2), row(1, 3), false},
		{row(2), row(3, 1), false},
		{row(math.MinInt), row(math.MaxInt), false},
	} {
		if clause.Within(c.a, c.b) != c.is {
			t.Error(c)
		}
	}
}

// P15.2: the value of a literal.
func TestVal(t *testing.T) {
	a := values(1, 2, 0, 3, -1, math.MinInt8, math.MaxInt8, -2, 1)
	want := []int8{
		1, 2, // true
		2, 1, // false
		0, 0, // open
		0, 0, // 3 counts as open, and so do all others
		0, 0,
		0, 0,
		0, 0,
		0, 0,
		1, 2,
	}
	for lit, w := range want {
		if v := clause.Val(a, lit); v != w {
			t.Error(lit, v, "not", w)
		}
	}
	for _, lit := range append(row(len(want), len(want)+1, len(want)+2, -3, -4, -17, -18), far...) {
		if v := clause.Val(a, lit); v != 0 {
			t.Error(lit, v)
		}
	}
	for _, lit := range append(row(0, 1, 2, 3), far...) {
		if clause.Val(nil, lit) != 0 || clause.Val(values(), lit) != 0 {
			t.Error("of none", lit)
		}
	}
	// nothing behind the end, though the memory has something there
	for lit := range want {
		if v := clause.Val(a[:0], lit); v != 0 {
			t.Error("behind the end", lit, v)
		}
	}
}

// P15.2: each value that may stand at a node.
func TestValOfAll(t *testing.T) {
	for n := math.MinInt8; n <= math.MaxInt8; n++ {
		plain, turned := int8(0), int8(0)
		switch n {
		case 1:
			plain, turned = 1, 2
		case 2:
			plain, turned = 2, 1
		}
		a := values(0, int8(n))
		if v, w := clause.Val(a, 2), clause.Val(a, 3); v != plain || w != turned {
			t.Error(n, v, w)
		}
	}
}

// state asks for the state of c and its literal.
func state(t *testing.T, c []int, a []int8, want int8, open int) {
	t.Helper()
	if s, lit := clause.State(c, a); s != want || lit != open {
		t.Error(c, a, s, lit, "not", want, open)
	}
}

// P15.2: the state of a clause.
func TestState(t *testing.T) {
	a := values(1, 2, 1, 2, 0, 0, 7, -1) // true: 0, 3, 4, 7; false: 1, 2, 5, 6
	for _, none := range [][]int{nil, {}} {
		state(t, none, a, clause.StFalse, -1)
		state(t, none, nil, clause.StFalse, -1)
	}
	// one that is true among others, wherever it stands
	for _, c := range [][]int{{0}, {3}, {0, 1}, {1, 2, 7}, {1, 4, 6}, {0, 2, 5}, {0, 3, 4}, {0, 8}, {4, 8, 10}, {8, 10, 0}, {8, 0, 10}, {8, 1, 0}, {-1, 0}} {
		state(t, c, a, clause.StTrue, -1)
	}
	for _, c := range [][]int{{1}, {2}, {1, 2}, {1, 2, 5, 6}, {6, 5, 2, 1}, {1, 1}} {
		state(t, c, a, clause.StFalse, -1)
	}
	// all but one false, wherever the open one stands
	for _, open := range []int{8, 9, 10, 12, 13, 14, 16, 99, math.MaxInt, math.MaxInt - 1} {
		state(t, row(open), a, clause.StUnit, open)
		for _, c := range [][]int{{1}, {1, 2}, {1, 2, 5, 6}} {
			for at := range len(c) + 1 {
				state(t, slices.Insert(slices.Clone(c), at, open), a, clause.StUnit, open)
			}
		}
	}
	state(t, row(4), nil, clause.StUnit, 4)
	state(t, row(0), nil, clause.StUnit, 0)
	// two that are open, or more
	for _, c := range [][]int{{8, 9}, {8, 10}, {1, 8, 10}, {8, 1, 10}, {8, 10, 1}, {8, 10, 12}, {1, 8, 2, 10, 5, 12}, {12, 99}, {98, 99}, {8, 9, 10, 11}} {
		state(t, c, a, clause.StOpen, -1)
		state(t, append(slices.Clone(c), 0), a, clause.StTrue, -1)
	}
	state(t, row(0, 2), nil, clause.StOpen, -1)
}

// P15.2: whether all clauses hold.
func TestHolds(t *testing.T) {
	a := values(1, 2, 0) // true: 0, 3; false: 1, 2; open: 4, 5
	for _, l := range [][][]int{
		nil, {}, {{0}}, {{3}}, {{0}, {3}}, {{0, 2}, {1, 3}, {3, 4}}, {{0}, {0}}, {{4, 5, 0}},
	} {
		if !clause.Holds(l, a) {
			t.Error("holds", l)
		}
	}
	for _, l := range [][][]int{
		{nil}, {{}}, {{0}, nil}, {nil, {0}}, {{0}, {}, {3}}, // the empty clause
		{{1}}, {{1, 2}}, {{0}, {1}}, {{1}, {0}}, {{0}, {1, 2}, {3}}, // one that is false
		{{4}}, {{5}}, {{2, 4}}, {{0}, {1, 5}}, {{1, 5}, {0}}, // a unit that is open
		{{4, 5}}, {{0}, {4, 6}}, {{99}}, {{-1}}, {{-2}}, {{0}, {math.MinInt}},
	} {
		if clause.Holds(l, a) {
			t.Error("does not hold", l)
		}
	}
	if !clause.Holds(nil, nil) || clause.Holds([][]int{nil}, nil) || clause.Holds([][]int{{0}}, nil) || clause.Holds([][]int{{0, 1}}, nil) {
		t.Error("of none")
	}
}

// resolved asks for what a and b resolve to.
func resolved(t *testing.T, a, b []int, lit int, want ...int) {
	t.Helper()
	if c, ok := clause.Resolve(a, b, lit); !ok || !slices.Equal(c, want) || !clause.Is(c) {
		t.Error(a, b, lit, c, ok, "not", want)
	}
}

// unresolved asks that a and b do not resolve.
func unresolved(t *testing.T, a, b []int, lit int) {
	t.Helper()
	if c, ok := clause.Resolve(a, b, lit); ok || len(c) != 0 {
		t.Error(a, b, lit, c, ok)
	}
}

// P15.3: two clauses resolved.
func TestResolve(t *testing.T) {
	resolved(t, row(2, 4, 9), row(5, 7, 9), 4, 2, 7, 9)
	resolved(t, row(5, 7, 9), row(2, 4, 9), 5, 2, 7, 9)
	resolved(t, row(4), row(5), 4)
	resolved(t, row(5), row(4), 5)
	resolved(t, row(0), row(1), 0)
	resolved(t, row(1), row(0), 1)
	resolved(t, row(4, 6), row(5), 4, 6)
	resolved(t, row(4), row(5, 6), 4, 6)
	resolved(t, row(2, 4), row(0, 5), 4, 0, 2)
	resolved(t, row(0, 4), row(2, 5), 4, 0, 2)
	resolved(t, row(4, 8), row(5, 9), 4, 8, 9) // the rest is idle
	resolved(t, row(4, 8, 9), row(5), 4, 8, 9)
	resolved(t, row(4, 6, 8), row(5, 6, 8), 4, 6, 8) // twice there
	resolved(t, row(math.MaxInt-1), row(3, math.MaxInt), math.MaxInt-1, 3)
	resolved(t, row(3, math.MaxInt), row(math.MaxInt-1), math.MaxInt, 3)
}

// P15.3: the literal or its Neg in both.
func TestResolveIdle(t *testing.T) {
	resolved(t, row(4, 5), row(5), 4, 5)
	resolved(t, row(4), row(4, 5), 4, 4)
	resolved(t, row(4, 5), row(4, 5), 4, 4, 5)
	resolved(t, row(4, 5), row(4, 5), 5, 4, 5)
	resolved(t, row(2, 4, 5), row(4, 5, 9), 4, 2, 4, 5, 9)
	resolved(t, row(4, 6), row(5, 7), 4, 6, 7)
	// a clause with itself
	resolved(t, row(4, 5, 8), row(4, 5, 8), 4, 4, 5, 8)
	unresolved(t, row(4, 8), row(4, 8), 4)
	unresolved(t, row(4, 8), row(4, 8), 5)
}

// P15.3: those that do not resolve.
func TestResolveNone(t *testing.T) {
	a, b := row(2, 4, 9), row(3, 5, 7)
	for lit := -9; lit < 14; lit++ {
		if lit != 2 && lit != 4 {
			unresolved(t, a, b, lit)
		}
	}
	unresolved(t, row(2), row(5), 4) // not in a
	unresolved(t, row(5), row(5), 4) // the Neg alone
	unresolved(t, row(4), row(2), 4) // the Neg not in b
	unresolved(t, row(4), row(4), 4) // the literal alone
	unresolved(t, row(5), row(4), 4) // the other way about
	unresolved(t, row(4), nil, 4)
	unresolved(t, nil, row(5), 4)
	unresolved(t, nil, nil, 4)
	unresolved(t, row(), row(), 0)
	unresolved(t, row(-1), row(-2), -1) // below 0, though both are there
	unresolved(t, row(-2), row(-1), -2)
	unresolved(t, row(-2, 0), row(-1, 1), -2)
	unresolved(t, row(math.MinInt), row(math.MinInt+1), math.MinInt)
	for _, lit := range far {
		unresolved(t, a, b, lit)
	}
}

// P15.3: rows that are no clauses: what they resolve to is one.
func TestResolveRows(t *testing.T) {
	resolved(t, row(9, 4, 2), row(7, 9, 5), 4, 2, 7, 9)
	resolved(t, row(4, 4, 2, 4), row(5, 2, 5), 4, 2)
	resolved(t, row(4, 4), row(5, 5, 5), 4)
	resolved(t, row(-1, 4, -6), row(5, 8, -2), 4, 8)
	resolved(t, row(-1, 4), row(math.MinInt, 5), 4)
	resolved(t, row(-1, 0), row(-2, 1), 0)
}

// R1: rows of many literals, in little time.
func TestLong(t *testing.T) {
	const many = 200000
	var up, down, even []int
	for i := range many {
		up = append(up, i)
		down = append(down, many-1-i)
		even = append(even, 2*(many-1-i))
	}
	alike(t, "Make", clause.Make(slices.Concat(down, up, down)), up)
	if !clause.Is(up) || clause.Is(down) || !clause.Idle(down) || clause.Idle(even) {
		t.Error("Is, Idle")
	}
	if !clause.Same(up, slices.Clone(up)) || clause.Same(up, down) || !clause.Within(up, down) || !clause.Within(down, up) || clause.Within(even, up) {
		t.Error("Same, Within")
	}
	a := slices.Repeat([]int8{2}, many)
	state(t, even, a, clause.StFalse, -1)
	a[0] = 0
	state(t, even, a, clause.StUnit, 0)
	a[0] = 1
	state(t, even, a, clause.StTrue, -1)
	if l := slices.Repeat([][]int{{0}}, many); !clause.Holds(l, a) || clause.Holds(append(l, []int{2}), a) {
		t.Error("Holds")
	}
	odd := make([]int, many)
	for i, lit := range even {
		odd[i] = atoms.Neg(lit)
	}
	o, ok := clause.Resolve(even, odd, 6)
	if !ok || len(o) != 2*many-2 || !clause.Is(o) || clause.Within([]int{6}, o) || clause.Within([]int{7}, o) {
		t.Error("Resolve", len(o), ok)
	}
}

// R3, R4: what is handed in is as it was, spare room included, and nothing of it
// is in an answer, or kept.
func TestMemory(t *testing.T) {
	roomA, roomB := row(9, 2, 4, 2, -1, 70, 71), row(7, 5, 9, 5, 80, 81)
	risen := row(2, 4, 9, 72, 73)
	a, b, c := roomA[:5], roomB[:4], risen[:3]
	wasA, wasB, wasC := slices.Clone(roomA), slices.Clone(roomB), slices.Clone(risen)
	val := values(2, 2, 0, 2, 2, 9, 1)[:5]
	wasVal := slices.Clone(val[:7])
	for range 2 {
		one, _ := clause.Resolve(a, b, 4)
		two, _ := clause.Resolve(c, b, 4)
		three, _ := clause.Resolve(b, c, 5)
		answers := [][]int{clause.Make(a), clause.Make(c), clause.Make(c), one, two, three}
		clause.Idle(a)
		clause.Is(a)
		clause.Same(a, b)
		clause.Within(a, b)
		clause.Within(b, a)
		clause.Val(val, 4)
		clause.State(a, val)
		clause.Holds([][]int{a, b, c}, val)
		for i, o := range answers {
			kept := [][]int{}
			for _, w := range answers {
				kept = append(kept, slices.Clone(w))
			}
			o = o[:cap(o)]
			for at := range o {
				o[at] = -5
			}
			for j, w := range answers {
				if j != i && !slices.Equal(w, kept[j]) {
					t.Error("shared", i, j)
				}
			}
			if !slices.Equal(roomA, wasA) || !slices.Equal(roomB, wasB) || !slices.Equal(risen, wasC) || !slices.Equal(val[:7], wasVal) {
				t.Fatal("changed", i)
			}
		}
	}
	o := clause.Make(c)
	r, _ := clause.Resolve(c, b, 4)
	c[0], b[0] = 0, 0
	alike(t, "Make changed with what was handed in", o, row(2, 4, 9))
	alike(t, "Resolve changed with what was handed in", r, row(2, 7, 9))
	r, _ = clause.Resolve(c, b, 4)
	alike(t, "kept", r, row(0, 9))
}
