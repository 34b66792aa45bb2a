package rup_test

import (
	"math"
	"slices"
	"testing"

	"gantry/rup"
	"gantry/units"
)

// far are numbers that are no literal, or above Top, and so are their Negs.
var far = []int{math.MinInt, math.MinInt + 1, math.MinInt32, -units.Top, -7, -2, -1, units.Top + 2, units.Top + 3, 1 << 21, 1 << 40, math.MaxInt - 1, math.MaxInt}

// row is one of these numbers.
func row(l ...int) []int { return l }

// rows are clauses.
func rows(l ...[]int) [][]int { return l }

// four are the clauses of the chapter's example.
func four() [][]int { return rows(row(2, 4), row(2, 5), row(3, 4), row(3, 5)) }

// follows fails, unless Follows tells so, and Row and Core tell the same.
func follows(t *testing.T, l [][]int, c []int, want bool) {
	t.Helper()
	if is := rup.Follows(l, c); is != want {
		t.Error("Follows", l, c, is)
	}
	at := 0
	if want {
		at = -1
	}
	if n := rup.Row(l, rows(c)); n != at {
		t.Error("Row", l, c, n)
	}
	if is := rup.Refutes(l, rows(c)); is != (want && len(c) == 0) {
		t.Error("Refutes", l, c, is)
	}
	if places := rup.Core(l, c); !want && len(places) > 0 {
		t.Error("Core", l, c, places)
	}
}

// P17.1: what follows by units, and what does not, though it holds.
func TestFollows(t *testing.T) {
	follows(t, four(), row(2), true)
	follows(t, four(), row(4), true)
	follows(t, four(), row(3), true)
	follows(t, four(), nil, false) // no two units meet
	follows(t, four(), row(6), false)
	follows(t, four(), row(2, 6), true)
	follows(t, four()[:3], row(2), true)
	follows(t, four()[:3], row(4), true)
	follows(t, four()[:3], row(5), false)
	follows(t, four()[:3], row(3), false)
	follows(t, four()[1:2], row(2), false)
	follows(t, four()[1:2], row(5), false)
	follows(t, four()[1:2], row(2, 5), true) // that one itself
	follows(t, four()[1:2], row(2, 5, 8), true)
	follows(t, four()[1:2], row(3, 4), false)
	follows(t, nil, row(2), false)
	follows(t, nil, row(0), false)
	follows(t, nil, row(1), false)
	follows(t, rows(row(0)), row(0), true)
	follows(t, rows(row(0)), row(1), false)
	follows(t, rows(row(1)), row(1), true)
	follows(t, rows(row(1)), row(0), false)
	follows(t, rows(row(2)), row(2, 4), true)
	follows(t, rows(row(2, 4)), row(2), false)
	// steps of several clauses behind one another
	follows(t, rows(row(3, 4), row(5, 6), row(7, 8)), row(3, 8), true)
	follows(t, rows(row(7, 8), row(5, 6), row(3, 4)), row(3, 8), true)
	follows(t, rows(row(3, 4), row(5, 6), row(7, 8)), row(2, 8), false)
	follows(t, rows(row(3, 4), row(7, 8)), row(3, 8), false)
	// it holds wherever they do, but not by units alone
	follows(t, rows(row(2, 4, 6), row(2, 4, 7), row(2, 5, 6), row(2, 5, 7)), row(2), false)
	follows(t, rows(row(2, 4, 6), row(2, 4, 7), row(2, 5, 6), row(2, 5, 7)), row(2, 4), true)
}

// P17.1: the empty clause follows where units alone meet.
func TestFollowsEmpty(t *testing.T) {
	follows(t, nil, nil, false)
	follows(t, rows(), row(), false)
	follows(t, rows(row(2)), nil, false)
	follows(t, rows(row(2), row(3)), nil, true)
	follows(t, rows(row(2, 4), row(3), row(5)), nil, true)
	follows(t, rows(row(2, 4), row(3, 4), row(5)), nil, true)
	follows(t, rows(row(2, 4), row(3, 4), row(7)), nil, false)
	follows(t, rows(nil), nil, true)
	follows(t, rows(row(2), row()), nil, true)
	// anything follows where they meet
	for _, c := range rows(row(2), row(3), row(8), row(8, 10), row(-1), row(units.Top), row(1<<40), row(4, 4)) {
		follows(t, rows(row(2), row(3)), c, true)
		follows(t, rows(nil), c, true)
		follows(t, rows(row(8, 5), row()), c, true)
	}
}

// P17.1: an idle clause follows from any, also from none.
func TestFollowsIdle(t *testing.T) {
	for _, l := range [][][]int{nil, four(), four()[:1], rows(row(8)), rows(nil), rows(row(2, 3))} {
		follows(t, l, row(6, 7), true)
		follows(t, l, row(7, 6), true)
		follows(t, l, row(0, 1), true)
		follows(t, l, row(2, 3), true)
		follows(t, l, row(4, 6, 8, 9), true)
		follows(t, l, row(7, 8, 6), true)
		follows(t, l, row(6, -1, 7), true)
		follows(t, l, row(units.Top-2, units.Top-1), true)
	}
	follows(t, nil, row(6, 8), false)
	follows(t, nil, row(7, 8), false) // the numbers next to each other alone
	follows(t, rows(row(2, 3)), row(2), false)
	follows(t, rows(row(2, 3)), nil, false)
}

// P17.1: rows that are no clauses count as they are.
func TestFollowsNoClauses(t *testing.T) {
	follows(t, rows(row(5, 2, 5)), row(5, 2), true)
	follows(t, rows(row(5, 2, 5)), row(2, 5), true)
	follows(t, rows(row(4, 3, 4)), row(4, 3, 3), true)
	follows(t, rows(row(4, 4)), row(4), true)
	follows(t, rows(row(4, 4)), row(4, 4), true)
	follows(t, rows(row(4, 4)), row(5), false)
	follows(t, rows(row(4, 4), row(5, 5)), nil, true)
	follows(t, nil, row(4, 4), false)
	follows(t, rows(row(4)), row(9, 7, 4), true)
	follows(t, rows(row(9, 4)), row(9, 9, 4), true)
	follows(t, rows(row(9, 4)), row(9, 9, 5), false)
}

// P17.1: a literal below 0 is left out, of all rows.
func TestFollowsLeftOut(t *testing.T) {
	for _, lit := range far {
		follows(t, nil, row(lit), false)
		follows(t, nil, row(lit, lit), false)
		follows(t, nil, row(lit, lit^1), false) // none of these is there
		follows(t, four(), row(lit, 2), true)
		follows(t, four(), row(2, lit, lit), true)
		follows(t, four(), row(lit), false)
		follows(t, four()[1:2], row(lit, 2), false)
		follows(t, rows(row(2), row(3)), row(lit), true)
		follows(t, rows(row(lit)), nil, true) // a row that is empty without it
		follows(t, rows(row(lit)), row(lit), true)
		follows(t, rows(row(2, lit)), row(2), true)
		follows(t, rows(row(2, lit)), row(4), false)
		follows(t, rows(row(lit, 2), row(3, lit)), nil, true)
	}
	follows(t, nil, far, false)
	follows(t, four(), append(slices.Clone(far), 2), true)
	follows(t, rows(append(slices.Clone(far), 2)), row(2), true)
}

// P17.1: the greatest literals, as units has them: what is above Top is left out.
func TestFollowsTop(t *testing.T) {
	const top = units.Top
	follows(t, rows(row(top-1)), row(top-1), true)
	follows(t, rows(row(top-2)), row(top-2), true)
	follows(t, rows(row(top-2)), row(top-1), false)
	follows(t, rows(row(top-1, 4), row(top-2, 4)), row(4), true)
	follows(t, rows(row(4, top), row(5, top)), row(top), false) // its Neg is left out
	follows(t, rows(row(4, top)), row(4), false)
	follows(t, rows(row(4, top+1)), row(4), true)
	follows(t, rows(row(4, top+1)), row(4, top+1), true)
	follows(t, rows(row(top+1)), row(8), true)
	follows(t, nil, row(top), false)
	follows(t, nil, row(top+1), false)
}

// P17.1: the place of the first step that does not follow.
func TestRow(t *testing.T) {
	three := four()[:3]
	for _, c := range []struct {
		l, steps [][]int
		at       int
	}{
		{nil, nil, -1},
		{four(), nil, -1},
		{four(), rows(), -1},
		{rows(nil), nil, -1},
		{nil, rows(nil), 0},
		{four(), rows(row(2), nil), -1},
		{four(), rows(nil), 0},
		{four(), rows(nil, row(2)), 0}, // what is behind is of no use
		{four(), rows(row(6), row(2)), 0},
		{four(), rows(row(2), row(6), nil), -1}, // behind a conflict all follow
		{four(), rows(row(2), row(3), row(8), row(9)), -1},
		{three, rows(row(2), nil), 1},
		{three, rows(row(2), row(4), nil), 2},
		{three, rows(row(2), row(4), row(6), nil), 2},
		{three, rows(row(2), row(4), row(2, 4), row(4), row(5)), 4},
		{three, rows(row(2), row(6), row(8)), 1},
		{nil, rows(row(2, 3), row(4, 5), row(6)), 2},
		// one that follows from the steps ahead alone, not from the clauses
		{rows(row(2, 4, 6), row(2, 4, 7), row(2, 5, 6), row(2, 5, 7)), rows(row(2)), 0},
		{rows(row(2, 4, 6), row(2, 4, 7), row(2, 5, 6), row(2, 5, 7)), rows(row(2, 4), row(2)), -1},
		{rows(row(2, 4, 6), row(2, 4, 7), row(2, 5, 6), row(2, 5, 7)), rows(row(2), row(2, 4)), 0},
		// a step that does not follow gives nothing to itself, or to those ahead
		{nil, rows(row(2), row(2)), 0},
		{rows(row(3, 4)), rows(row(3, 4, 8), row(4), row(2)), 1},
		// rows that are no clauses, literals that are left out
		{four(), rows(row(2, 2), row(-1)), -1},
		{three, rows(row(-4, 2), row(-1)), 1},
		{three, rows(row(4, -3, 2, 4), row(-1, 2), row(5)), 2},
	} {
		if at := rup.Row(c.l, c.steps); at != c.at {
			t.Error(c.l, c.steps, at, "not", c.at)
		}
	}
	for n := range 20 {
		steps := slices.Repeat(rows(row(2, 4, 8)), n)
		if at := rup.Row(three, append(steps, row(5), row(2, 8))); at != n {
			t.Error(n, at)
		}
		if at := rup.Row(three, steps); at != -1 {
			t.Error(n, at)
		}
	}
}

// P17.2: whether each step follows, and the last one is empty.
func TestRefutes(t *testing.T) {
	for _, c := range []struct {
		l, steps [][]int
		is       bool
	}{
		{four(), rows(row(2), nil), true}, // the chapter's example
		{four(), rows(row(2), row()), true},
		{four(), rows(row(3), nil), true},
		{four(), rows(row(2), row(3), row(6), nil), true},
		{four(), rows(row(2), nil, row()), true},
		{four(), rows(nil), false},
		{four(), rows(row(2)), false},
		{four(), rows(row(2), row(3)), false},
		{four(), rows(row(2), nil, row(2)), false}, // the last one is not empty
		{four(), rows(row(6), nil), false},         // the last one would follow
		{four(), rows(row(6), row(2), nil), false},
		{four(), rows(nil, row(2), nil), false},
		{four(), nil, false},
		{four(), rows(), false},
		{nil, nil, false},
		{nil, rows(nil), false},
		{nil, rows(row(2, 3), nil), false},
		{rows(nil), nil, false}, // there is no step
		{rows(nil), rows(nil), true},
		{rows(row()), rows(row()), true},
		{rows(row(8), row()), rows(nil), true},
		{rows(row(2), row(3)), rows(nil), true},
		{rows(row(2), row(3)), rows(row(4)), false},
		{four()[:3], rows(row(2), nil), false},
		{four()[:3], rows(row(2), row(4), nil), false},
		{four(), rows(row(2, 2), nil), true},
		{four(), rows(row(-3, 2), nil), true},
		{four(), rows(row(2), row(-1)), false}, // it is no empty row
		{rows(row(-1)), rows(nil), true},
	} {
		if is := rup.Refutes(c.l, c.steps); is != c.is {
			t.Error(c.l, c.steps, is)
		}
	}
}

// P17.2: the places of the clauses that are left.
func TestCore(t *testing.T) {
	for _, c := range []struct {
		l      [][]int
		c      []int
		places []int
	}{
		{nil, nil, nil},
		{nil, row(2), nil},
		{four(), nil, nil}, // it does not follow
		{four(), row(8), nil},
		{four(), row(2), row(0, 1)},
		{four(), row(3), row(2, 3)},
		{four(), row(4), row(0, 2)},
		{four(), row(5), row(1, 3)},
		{four(), row(2, 4), row(0)},
		{append(rows(row(8, 10)), four()...), row(2), row(1, 2)},
		{append(four(), row(2)), row(2), row(0, 1)}, // from the last one on
		{append(rows(row(2)), four()...), row(2), row(0)},
		{rows(row(2), row(2), row(2)), row(2), row(0)},
		{rows(row(6), row(2), row(2, 6), row(2)), row(2), row(1)},
		{rows(row(6), row(2, 4), row(2), row(2, 5)), row(2), row(2)},
		{rows(row(6), row(2, 4), row(2, 5), row(2)), row(2), row(1, 2)},
		{rows(row(2), row(3)), nil, row(0, 1)},
		{rows(row(2), row(3), row(2), row(3)), nil, row(0, 1)},
		{rows(row(2), row(2), row(4), row(3), row(3)), nil, row(0, 3)},
		{rows(row(2), row(3)), row(8), row(0, 1)},
		{rows(row(2), row(3)), row(2), row(0)},
		{rows(row(2), row(3)), row(3), row(1)},
		{rows(row(2), nil, row(3)), nil, row(1)},
		{rows(row(2), row(3), nil), nil, row(0, 1)},
		{rows(nil, nil), row(6), row(0)},
		// an idle one needs none
		{nil, row(6, 7), nil},
		{four(), row(6, 7), nil},
		{rows(nil), row(3, 2), nil},
		// all of a chain, in order and turned about
		{rows(row(3, 4), row(5, 6), row(7, 8)), row(3, 8), row(0, 1, 2)},
		{rows(row(7, 8), row(3, 4), row(5, 6)), row(8, 3), row(0, 1, 2)},
		{rows(row(3, 4), row(5, 8), row(5, 6), row(7, 8)), row(3, 8), row(0, 1)},
		{rows(row(3, 4), row(5, 6), row(7, 8), row(5, 8)), row(3, 8), row(0, 1, 2)},
		// rows that are no clauses, literals that are left out
		{rows(row(4, 4), row(-1, 5, 2), row(2)), row(2, -1), row(0, 1)},
		{rows(row(2), row(-1)), row(2), row(0)},
		{rows(row(-1), row(2)), row(2), row(0)},
		{rows(row(4), row(1<<40), row(5)), nil, row(1)},
	} {
		if places := rup.Core(c.l, c.c); !slices.Equal(places, c.places) {
			t.Error(c.l, c.c, places, "not", c.places)
		}
	}
}

// P17.2: what is needed may stand anywhere among what is not.
func TestCorePlaces(t *testing.T) {
	for n := range 26 {
		for at := range n {
			l := slices.Repeat(rows(row(8, 10)), n)
			l[at] = row(2)
			if places := rup.Core(l, row(2)); !slices.Equal(places, row(at)) {
				t.Error(n, at, places)
			}
			for other := range at {
				l[other] = row(3, 4)
				if places := rup.Core(l, row(4)); !slices.Equal(places, row(other, at)) {
					t.Error(n, at, other, places)
				}
				l[other] = row(2)
				if places := rup.Core(l, row(2)); !slices.Equal(places, row(other)) {
					t.Error(n, at, other, places)
				}
				l[other] = row(8, 10)
			}
		}
	}
}

// chain is a row of n clauses, each of which puts the next literal.
func chain(n int) [][]int {
	var l [][]int
	for i := range n {
		l = append(l, row(2*i+1, 2*i+2))
	}
	return l
}

// P17.1, P17.2: many clauses, steps and literals, in little time.
func TestLong(t *testing.T) {
	const many = 100000
	l := chain(many)
	if !rup.Follows(l, row(1, 2*many)) || rup.Follows(l, row(1, 2*many+1)) || rup.Follows(l, row(2*many)) {
		t.Error("Follows")
	}
	var lits []int
	for i := range many {
		lits = append(lits, 2*i)
	}
	if !rup.Follows(rows(lits), lits) || rup.Follows(rows(lits), lits[1:]) || !rup.Follows(nil, append(slices.Clone(lits), 9)) {
		t.Error("Follows, of many literals")
	}
	var all []int
	for i := range 1500 {
		all = append(all, i)
	}
	if places := rup.Core(chain(1500), row(1, 3000)); !slices.Equal(places, all) {
		t.Error("Core, of all", len(places))
	}
	if places := rup.Core(append(l, four()...), row(1, 6)); !slices.Equal(places, row(0, 1, 2)) {
		t.Error("Core, of few", places)
	}
	// each step follows from the one ahead of it, and one clause
	var steps [][]int
	for i := range 1200 {
		steps = append(steps, row(1, 2*i+2))
	}
	if n := rup.Row(chain(1200), steps); n != -1 {
		t.Error("Row", n)
	}
	if n := rup.Row(chain(1000), steps); n != 1000 {
		t.Error("Row, of too few", n)
	}
	if !rup.Refutes(append(chain(1200), row(0), row(2401)), append(steps, nil)) {
		t.Error("Refutes")
	}
}

// R3, R4: what is handed in is as it was, spare room included, and nothing of it
// is in an answer, or kept.
func TestMemory(t *testing.T) {
	made := func() (l, steps [][]int, c []int) {
		l = rows(row(5, 2, 4, 70)[:3], row(-1, 4, 71, 72)[:2], row(2, 73, 74)[:1], row(75))
		steps = rows(row(2, 2, 80)[:2], row(6, 7, 81)[:2], row(3), row(82))
		return l[:3], steps[:2], row(2, -1, 76, 77)[:2]
	}
	alike := func(a, b []int) bool { return slices.Equal(a[:cap(a)], b[:cap(b)]) }
	l, steps, c := made()
	wasL, wasSteps, wasC := made()
	for range 2 {
		one, two := rup.Core(l, c), rup.Core(l, c)
		if !rup.Follows(l, c) || rup.Row(l, steps) != -1 || rup.Row(l, steps[:3]) != 2 || rup.Refutes(l, steps) {
			t.Fatal("not as ahead")
		}
		if !slices.Equal(one, row(2)) {
			t.Fatal("Core", one)
		}
		one = one[:cap(one)]
		for i := range one {
			one[i] = -9
		}
		if !slices.Equal(two, row(2)) {
			t.Fatal("shared", two)
		}
		if !slices.EqualFunc(l[:4], wasL[:4], alike) || !slices.EqualFunc(steps[:4], wasSteps[:4], alike) || !alike(c, wasC) {
			t.Fatal("changed", l[:4], steps[:4], c)
		}
	}
	places := rup.Core(l[:2], row(4))
	l[0][0], l[1], c[0] = 9, row(3), 4
	if !slices.Equal(places, row(1)) {
		t.Error("changed with what was handed in", places)
	}
	follows(t, l[:2], row(4, 9), true)
	follows(t, l[:2], c, false)
}

// P17.3: what follows does so from more, wherever these stand.
func TestOrder(t *testing.T) {
	l := rows(row(3, 4), row(5, 6))
	for _, c := range rows(row(8), row(3), nil, row(-1), row(6, 7)) {
		follows(t, append(slices.Clone(l), c), row(3, 6), true)
		follows(t, append(rows(c), l...), row(3, 6), true)
		follows(t, rows(l[1], c, l[0]), row(3, 6, 10), true)
	}
}
