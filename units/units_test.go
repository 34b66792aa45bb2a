package units_test

import (
	"math"
	"slices"
	"testing"

	"gantry/atoms"
	"gantry/units"
)

// far are numbers that are no literal, or above Top.
var far = []int{math.MinInt, math.MinInt + 1, math.MinInt32, -units.Top, -7, -2, -1, units.Top + 1, units.Top + 2, 1 << 21, 1 << 40, math.MaxInt - 1, math.MaxInt}

// row is one of these numbers.
func row(l ...int) []int { return l }

// rows are clauses.
func rows(l ...[]int) [][]int { return l }

// values are an assignment.
func values(l ...int8) []int8 { return l }

// run fails, unless Run puts these and tells that conflict, and Closes and
// Implies tell the same.
func run(t *testing.T, l [][]int, given []int, conflict int, want ...int) {
	t.Helper()
	lits, k := units.Run(l, given)
	if !slices.Equal(lits, want) || k != conflict {
		t.Error("Run", l, given, lits, k, "not", want, conflict)
		return
	}
	closes := conflict != units.None
	if is := units.Closes(l, given); is != closes {
		t.Error("Closes", l, given, is)
	}
	for _, lit := range slices.Concat(want, given, row(0, 1, 2, 3, 4, 5, 98, 99), far) {
		for _, lit := range row(lit, atoms.Neg(lit)) {
			is := units.Implies(l, given, lit)
			if is != (closes || slices.Contains(want, lit)) {
				t.Error("Implies", l, given, lit, is)
			}
		}
	}
}

// P16.1: the numbers of what is no clause, and of the greatest literal.
func TestNames(t *testing.T) {
	if units.None != -1 || units.Given != -2 || units.Top != 1048576 {
		t.Error(units.None, units.Given, units.Top)
	}
}

// P16.1: what is given is put in order, and each once.
func TestGiven(t *testing.T) {
	run(t, nil, nil, units.None)
	run(t, rows(), row(), units.None)
	run(t, nil, row(0), units.None, 0)
	run(t, nil, row(1), units.None, 1)
	run(t, nil, row(4, 3, 8), units.None, 4, 3, 8)
	run(t, nil, row(8, 3, 4), units.None, 8, 3, 4)
	run(t, nil, row(4, 4), units.None, 4)
	run(t, nil, row(4, 3, 4), units.None, 4, 3)
	run(t, nil, row(4, 3, 3, 4, 6, 4, 3), units.None, 4, 3, 6)
	run(t, nil, row(5, 5, 5), units.None, 5)
}

// P16.1: a literal and its Neg that are given, in either order; what is ahead of
// the second one is put, what is behind is not.
func TestGivenConflict(t *testing.T) {
	run(t, nil, row(4, 5), units.Given, 4)
	run(t, nil, row(5, 4), units.Given, 5)
	run(t, nil, row(0, 1), units.Given, 0)
	run(t, nil, row(4, 5, 6), units.Given, 4)
	run(t, nil, row(4, 6, 8, 5, 10), units.Given, 4, 6, 8)
	run(t, nil, row(4, 4, 6, 7, 5), units.Given, 4, 6)
	run(t, nil, row(2, 4, 5, 3), units.Given, 2, 4)
	// no clause is asked then, whatever it is
	run(t, rows(row(8), row()), row(4, 5), units.Given, 4)
	run(t, rows(row(), row(5)), row(4, 5), units.Given, 4)
	run(t, rows(row(5, 8)), row(4, 5, 2), units.Given, 4)
	// what comes of clauses is no conflict of what is given
	run(t, rows(row(3, 5)), row(2, 4), 0, 2, 4)
	run(t, rows(row(3, 5), row(4)), row(2), 1, 2, 5)
}

// P16.1: given literals below 0 and above Top are left out; Top is not.
func TestGivenLeftOut(t *testing.T) {
	for _, lit := range far {
		run(t, nil, row(lit), units.None)
		run(t, nil, row(lit, lit, -5, lit), units.None)
		run(t, nil, row(4, lit, 6), units.None, 4, 6)
		run(t, nil, row(lit, 4, 5), units.Given, 4)
		run(t, rows(row(5, 8)), row(lit, 4, lit), units.None, 4, 8)
	}
	run(t, nil, far, units.None)
	run(t, nil, row(units.Top), units.None, units.Top)
	run(t, nil, row(units.Top-1), units.None, units.Top-1)
	run(t, nil, row(units.Top-1, units.Top-2), units.Given, units.Top-1)
	// that is Top's Neg, and above it
	run(t, nil, row(units.Top, units.Top+1), units.None, units.Top)
	run(t, nil, row(units.Top+1, units.Top), units.None, units.Top)
	run(t, nil, row(0, 1<<20|1, 1<<32), units.None, 0)
}

// P16.1: the examples, and clauses that are units, or get so.
func TestClauses(t *testing.T) {
	run(t, rows(row(3, 4), row(5, 6)), row(2), units.None, 2, 4, 6) // the chapter's example
	run(t, rows(row(5, 6), row(3, 4)), row(2), units.None, 2, 4, 6)
	run(t, rows(row(2)), nil, units.None, 2)
	run(t, rows(row(0)), nil, units.None, 0)
	run(t, rows(row(1)), nil, units.None, 1)
	run(t, rows(row(2), row(2), row(2)), nil, units.None, 2)
	run(t, rows(row(2, 4)), nil, units.None)
	run(t, rows(row(2, 4)), row(3), units.None, 3, 4)
	run(t, rows(row(2, 4)), row(5), units.None, 5, 2)
	run(t, rows(row(2, 4)), row(2), units.None, 2)
	run(t, rows(row(2, 4)), row(4), units.None, 4)
	run(t, rows(row(2, 4)), row(4, 3), units.None, 4, 3)
	run(t, rows(row(2, 4)), row(3, 4), units.None, 3, 4)
	run(t, rows(row(2, 4)), row(3, 5), 0, 3, 5)
	run(t, rows(row(2, 4, 6)), row(3), units.None, 3)
	run(t, rows(row(2, 4, 6)), row(7, 3), units.None, 7, 3, 4)
	run(t, rows(row(2, 4, 6)), row(5, 7), units.None, 5, 7, 2)
	run(t, rows(row(2, 4, 6)), row(3, 5), units.None, 3, 5, 6)
	run(t, rows(row(2, 4, 6)), row(7, 5, 3), 0, 7, 5, 3)
	run(t, rows(row(2, 4, 6)), row(7, 4, 3), units.None, 7, 4, 3)
	run(t, rows(row(2, 4, 6), row(3), row(5)), nil, units.None, 3, 5, 6)
	run(t, rows(row(3, 7, 8), row(5, 6), row(3, 4)), row(2), units.None, 2, 4, 6, 8)
	// a node may be a literal's own, or its Neg's
	run(t, rows(row(3, 5), row(4, 7)), row(2), units.None, 2, 5, 7)
	run(t, rows(row(2, 4), row(5, 6)), row(3), units.None, 3, 4, 6)
}

// P16.1: clauses that are empty, or idle.
func TestEmptyAndIdle(t *testing.T) {
	run(t, rows(nil), nil, 0)
	run(t, rows(row()), row(), 0)
	run(t, rows(row()), row(2), 0, 2)
	run(t, rows(row(), row(2)), nil, 0)
	run(t, rows(row(2), row()), nil, 1)
	run(t, rows(row(2, 4), nil, row(), row(6)), row(3), 1, 3)
	run(t, rows(row(2, 3)), nil, units.None)
	run(t, rows(row(2, 3)), row(2), units.None, 2)
	run(t, rows(row(2, 3)), row(3), units.None, 3)
	run(t, rows(row(2, 3, 4)), row(5), units.None, 5)
	run(t, rows(row(2, 4, 5)), row(3), units.None, 3)
	run(t, rows(row(3, 2), row(2, 3, 2)), nil, units.None)
	run(t, rows(row(2, 3), row(2, 4)), row(3), units.None, 3, 4)
}

// P16.1: rows that are no clauses count as their literals do: not in order, and
// a literal that comes twice is one.
func TestNoClauses(t *testing.T) {
	run(t, rows(row(4, 3)), row(2), units.None, 2, 4)
	run(t, rows(row(6, 2, 4)), row(3, 5), units.None, 3, 5, 6)
	run(t, rows(row(2, 2)), nil, units.None, 2)
	run(t, rows(row(2, 2, 2, 2)), nil, units.None, 2)
	run(t, rows(row(2, 2)), row(3), 0, 3)
	run(t, rows(row(4, 3, 4)), row(2), units.None, 2, 4)
	run(t, rows(row(3, 4, 4)), row(2), units.None, 2, 4)
	run(t, rows(row(4, 4, 3)), row(2), units.None, 2, 4)
	run(t, rows(row(4, 4, 6)), nil, units.None)
	run(t, rows(row(4, 6, 4)), row(7), units.None, 7, 4)
	run(t, rows(row(4, 6, 4)), row(5), units.None, 5, 6)
	run(t, rows(row(4, 6, 4, 6)), row(5), units.None, 5, 6)
	run(t, rows(row(4, 4, 6, 6)), row(7, 5), 0, 7, 5)
	run(t, rows(row(4, 4, 6, 6, 8)), row(5, 7), units.None, 5, 7, 8)
	run(t, rows(row(8, 4, 4, 6, 8, 6)), row(9, 7), units.None, 9, 7, 4)
	run(t, rows(row(4, -3, 4), row(5, 6, -3, 6)), nil, units.None, 4, 6)
}

// P16.1: literals below 0 and above Top are left out of clauses, too.
func TestLeftOut(t *testing.T) {
	for _, lit := range far {
		// it is not given, and the clause that it is left out of is empty
		run(t, rows(row(lit)), row(lit), 0)
		run(t, rows(row(lit)), row(-2), 0)
		run(t, rows(row(2, 4), row(lit, lit)), row(3), 1, 3)
		run(t, rows(row(2, lit)), nil, units.None, 2)
		run(t, rows(row(lit, 2)), nil, units.None, 2)
		run(t, rows(row(lit, 2, lit)), row(lit), units.None, 2)
		run(t, rows(row(lit, 2)), row(3), 0, 3)
		run(t, rows(row(2, lit, 4)), nil, units.None)
		run(t, rows(row(2, lit, 4)), row(3), units.None, 3, 4)
		run(t, rows(row(2, lit, 4)), row(5), units.None, 5, 2)
		run(t, rows(row(2, 4, lit)), row(5, 3), 0, 5, 3)
		run(t, rows(row(lit, 4), row(5, lit, 7)), nil, units.None, 4, 7)
		run(t, rows(row(6), row(lit, 7), row(8)), nil, 1, 6)
		run(t, rows(row(lit, -1, 2)), nil, units.None, 2)
	}
	run(t, rows(far), nil, 0)
	run(t, rows(slices.Concat(far, row(6), far)), far, units.None, 6)
	run(t, rows(row(-1, 3), row(-5)), row(-2), 1)
}

// P16.1: Top is a literal as all others are, though its Neg is above it.
func TestTop(t *testing.T) {
	const top = units.Top
	run(t, rows(row(top)), nil, units.None, top)
	run(t, rows(row(top, 4)), row(5), units.None, 5, top)
	run(t, rows(row(4, top)), row(top), units.None, top)
	run(t, rows(row(4, top)), nil, units.None)
	run(t, rows(row(4, top)), row(top+1), units.None)
	run(t, rows(row(4, top+1)), row(top), units.None, top, 4)
	run(t, rows(row(top+1)), row(top), 0, top)
	run(t, rows(row(top), row(top+1)), nil, 1)
	run(t, rows(row(top, top+1)), nil, units.None, top)
	run(t, rows(row(top-1, 4)), row(top-2), units.None, top-2, 4)
	run(t, rows(row(top-2, 4), row(5, top)), row(top-1), units.None, top-1, 4, top)
	run(t, rows(row(top-1), row(top-2)), nil, 1, top-1)
}

// P16.1: the first clause that is false is the conflict.
func TestFirstFalse(t *testing.T) {
	run(t, rows(row(), row()), nil, 0)
	run(t, rows(row(4), row(), row()), nil, 1)
	run(t, rows(row(3), row(3, 5)), row(2, 4), 0, 2, 4)
	run(t, rows(row(5), row(3)), row(2, 4), 0, 2, 4)
	run(t, rows(row(6), row(5), row(3)), row(2, 4), 1, 2, 4)
	// several that one literal makes false, in whatever order they are had
	run(t, rows(row(3, 8), row(3, 9), row(3, 9, 8), row(2, 3)), row(2), 1, 2, 8)
	run(t, rows(row(9, 3), row(3, 8), row(9), row(3, 9)), row(2, 8), 0, 2, 8)
	run(t, rows(row(5, 6), row(7, 8), row(7, 9), row(9, 7)), row(4), 2, 4, 6, 8)
	run(t, rows(row(5, 6), row(7, 8), row(7, 9), row(7), row(9, 7)), row(4), 3, 4, 6)
	run(t, rows(row(5, 10), row(5, 12), row(11, 13), row(13, 11), row(11), row(11, 13)), row(4), 4, 4, 10)
	run(t, rows(row(5, 10), row(5, 12), row(11, 13), row(13, 11), row(11, 13)), row(4), 2, 4, 10, 12)
	run(t, rows(row(4), row(6), row(8), row(9, 7), row(7, 5)), nil, 4, 4, 6)
	for k := range 40 {
		// those behind k are false behind the only literal that is put
		l := slices.Repeat(rows(row(2, 4)), k)
		l = append(l, row(3))
		l = append(l, slices.Repeat(rows(row(2)), 40-k)...)
		run(t, l, nil, k+1, 3)
	}
}

// P16.1: the first clause that is false goes ahead of any that is unit.
func TestFalseAhead(t *testing.T) {
	run(t, rows(row(2), row(4), row()), nil, 2)
	run(t, rows(row(), row(2)), nil, 0)
	run(t, rows(row(4), row(6), row(3)), row(2), 2, 2)
	run(t, rows(row(3, 4), row(3, 5), row(3)), row(2), 2, 2)
	run(t, rows(row(3, 4), row(3, 5)), row(2), 1, 2, 4)
	run(t, rows(row(2), row(3), row(4)), nil, 1, 2)
	run(t, rows(row(3), row(2), row(4)), nil, 1, 3)
	run(t, rows(row(2), row(4), row(3)), nil, 2, 2)
	run(t, rows(row(2), row(4), row(6), row(3, 8), row(3, 5)), nil, 4, 2, 4)
	run(t, rows(row(3, 8), row(9, 10), row(11, 12), row(13, 3)), row(2), 3, 2, 8, 10, 12)
}

// P16.1: the open literal of the first clause that is unit is put, each time.
func TestFirstUnit(t *testing.T) {
	run(t, rows(row(2), row(4), row(6)), nil, units.None, 2, 4, 6)
	run(t, rows(row(6), row(4), row(2)), nil, units.None, 6, 4, 2)
	run(t, rows(row(9), row(0), row(5)), nil, units.None, 9, 0, 5)
	run(t, rows(row(3, 8), row(3, 6), row(3, 4)), row(2), units.None, 2, 8, 6, 4)
	run(t, rows(row(4, 3), row(6, 3), row(8, 3)), row(2), units.None, 2, 4, 6, 8)
	// one that gets unit goes ahead of those behind it that were unit
	run(t, rows(row(5, 6), row(4), row(8)), nil, units.None, 4, 6, 8)
	run(t, rows(row(4), row(8), row(5, 6)), nil, units.None, 4, 8, 6)
	run(t, rows(row(9, 10), row(7, 8), row(5, 6), row(4), row(12)), nil, units.None, 4, 6, 8, 10, 12)
	run(t, rows(row(7, 8), row(4), row(5, 6), row(12), row(9, 10)), nil, units.None, 4, 6, 8, 12, 10)
	// one that was unit is true by now
	run(t, rows(row(4), row(4, 3), row(6)), row(2), units.None, 2, 4, 6)
	run(t, rows(row(3, 4), row(6), row(3, 7, 4), row(8)), row(2), units.None, 2, 4, 6, 8)
	// one that was unit is false by now
	run(t, rows(row(3, 4), row(3, 6), row(3, 5)), row(2), 2, 2, 4)
}

// chain is a row of n clauses, each of which puts the next literal.
func chain(n int) [][]int {
	var l [][]int
	for i := range n {
		l = append(l, row(2*i+1, 2*i+2))
	}
	return l
}

// P16.1: a chain of clauses in order and turned about, in little time.
func TestChain(t *testing.T) {
	for _, n := range []int{1, 2, 3, 64, 600, 100000} {
		l := chain(n)
		var want []int
		for i := range n + 1 {
			want = append(want, 2*i)
		}
		turned := slices.Clone(l)
		slices.Reverse(turned)
		var mixed, odd [][]int
		for i, c := range l {
			if i%2 == 0 {
				mixed = append(mixed, c)
			} else {
				odd = append(odd, c)
			}
		}
		mixed = append(mixed, odd...)
		for i, of := range [][][]int{l, turned, mixed} {
			if lits, k := units.Run(of, row(0)); k != units.None || !slices.Equal(lits, want) {
				t.Error(n, i, len(lits), k)
			}
			if lits, k := units.Run(of, nil); k != units.None || len(lits) != 0 {
				t.Error(n, i, lits, k)
			}
			closed := append(slices.Clone(of), row(2*n+1))
			if lits, k := units.Run(closed, row(0)); k == units.None || len(lits) == 0 {
				t.Error(n, i, lits, k)
			}
			// backwards, by each one's Neg
			lits, k := units.Run(of, row(2*n+1))
			if k != units.None || len(lits) != n+1 || lits[n] != 1 || lits[1] != 2*n-1 {
				t.Error(n, i, len(lits), k)
			}
		}
	}
}

// R1: clauses of many literals, and many clauses, in little time.
func TestLong(t *testing.T) {
	const many = 100000
	var clause, negs, back []int
	for i := range many {
		clause = append(clause, 2*i)
		negs = append(negs, 2*i+1)
	}
	back = slices.Clone(negs)
	slices.Reverse(back)
	var ones [][]int
	for _, neg := range negs {
		ones = append(ones, row(neg))
	}
	for _, given := range [][]int{negs, back} {
		last := atoms.Neg(given[many-1])
		if lits, k := units.Run(rows(clause), given[:many-1]); k != units.None || len(lits) != many || lits[many-1] != last {
			t.Error(len(lits), k)
		}
		if lits, k := units.Run(rows(clause), given); k != 0 || len(lits) != many {
			t.Error(len(lits), k)
		}
	}
	// the clause is unit ahead of the last one
	want := append(slices.Clone(negs[:many-1]), clause[many-1])
	if lits, k := units.Run(append(rows(clause), ones...), nil); k != many || !slices.Equal(lits, want) {
		t.Error(len(lits), k)
	}
	if lits, k := units.Run(append(slices.Clone(ones), clause), nil); k != many || !slices.Equal(lits, negs) {
		t.Error(len(lits), k)
	}
	if lits, k := units.Run(slices.Repeat(rows(row(3, 4), row(5, 2, 6)), many), row(2)); k != units.None || !slices.Equal(lits, row(2, 4)) {
		t.Error(lits, k)
	}
	if lits, k := units.Run(rows(slices.Repeat(row(7, -1, 7), many)), slices.Repeat(row(4, 1<<40), many)); k != units.None || !slices.Equal(lits, row(4, 7)) {
		t.Error(lits, k)
	}
}

// P16.1: the values by node that literals have put.
func TestValues(t *testing.T) {
	for _, c := range []struct {
		lits []int
		want []int8
	}{
		{nil, nil},
		{row(), nil},
		{row(0), values(1)},
		{row(1), values(2)},
		{row(2), values(0, 1)},
		{row(3), values(0, 2)},
		{row(5, 2), values(0, 1, 2)},
		{row(2, 5), values(0, 1, 2)},
		{row(0, 3, 4, 7), values(1, 2, 1, 2)},
		{row(7, 4, 3, 0), values(1, 2, 1, 2)},
		{row(9, 0), values(1, 0, 0, 0, 2)},
		{row(4, 4), values(0, 0, 1)}, // a node that comes twice
		{row(5, 5, 5), values(0, 0, 2)},
		{row(4, 5), values(0, 0, 1)}, // with unlike signs
		{row(5, 4), values(0, 0, 2)},
		{row(4, 5, 5), values(0, 0, 1)},
		{row(4, 1, 5, 0), values(2, 0, 1)},
		{row(1, 0, 6, 7, 6), values(2, 0, 0, 1)},
		{row(-3, 1), values(2)},
		{row(1, -3), values(2)},
		{row(units.Top+1, 2, 1<<40), values(0, 1)},
		{far, nil},
		{slices.Concat(far, row(3, 0), far), values(1, 2)},
	} {
		if a := units.Values(c.lits); !slices.Equal(a, c.want) {
			t.Error(c.lits, a, "not", c.want)
		}
	}
}

// P16.1: Values is as long as the greatest node that is not left out asks.
func TestValuesLength(t *testing.T) {
	for lit := range 300 {
		a := units.Values(row(lit))
		b := units.Values(row(0, lit, 1))
		if len(a) != lit/2+1 || len(b) != lit/2+1 || a[lit/2] == 0 {
			t.Error(lit, a, b)
		}
	}
	for _, lit := range far {
		if a := units.Values(row(lit)); len(a) != 0 {
			t.Error(lit, len(a))
		}
		if a := units.Values(row(lit, 6, lit)); !slices.Equal(a, values(0, 0, 0, 1)) {
			t.Error(lit, a)
		}
	}
	for _, lit := range row(units.Top, units.Top-1, units.Top-2) {
		a := units.Values(row(4, lit, 4, units.Top+1))
		if len(a) != lit/2+1 || a[2] != 1 || a[lit/2] != int8(1+lit%2) {
			t.Error(lit, len(a))
		}
		a[2], a[lit/2] = 0, 0
		if slices.Max(a) != 0 {
			t.Error(lit)
		}
	}
}

// P16.2: whether there is a conflict.
func TestCloses(t *testing.T) {
	for _, c := range []struct {
		l     [][]int
		given []int
		is    bool
	}{
		{nil, nil, false},
		{nil, row(4), false},
		{nil, row(4, 5), true},
		{rows(row(8)), row(5, 4), true},
		{nil, row(-1, -2), false},
		{rows(nil), nil, true},
		{rows(row(-1)), nil, true},
		{rows(row(2)), nil, false},
		{rows(row(2), row(3)), nil, true},
		{rows(row(2, 4)), nil, false},
		{rows(row(2, 4)), row(3), false},
		{rows(row(2, 4)), row(3, 5), true},
		{rows(row(2, 4), row(2, 5)), nil, false}, // 2 follows, but not by units alone
		{rows(row(2, 4), row(2, 5)), row(3), true},
		{rows(row(2, 4), row(2, 5), row(3, 4), row(3, 5)), nil, false},
		{rows(row(2, 4), row(2, 5), row(3, 4), row(3, 5)), row(2), true},
		{rows(row(2, 3)), row(2), false},
	} {
		if is := units.Closes(c.l, c.given); is != c.is {
			t.Error(c.l, c.given, is)
		}
	}
}

// P16.2: whether there is a conflict, or a literal is put.
func TestImplies(t *testing.T) {
	l := rows(row(3, 4), row(5, 7), row(8, 10))
	for _, c := range []struct {
		lit int
		is  bool
	}{
		{2, true},  // given
		{3, false}, // its Neg is given
		{4, true},  // put
		{5, false}, // its Neg is put
		{7, true},
		{6, false},
		{8, false}, // open
		{9, false},
		{10, false},
		{11, false},
		{0, false}, // in no clause
		{1, false},
		{99, false},
		{units.Top, false},
	} {
		if is := units.Implies(l, row(2), c.lit); is != c.is {
			t.Error(c.lit, is)
		}
	}
	for _, lit := range far {
		if units.Implies(l, row(2, lit), lit) || units.Implies(append(slices.Clone(l), row(2, lit)), row(2, lit), lit) {
			t.Error("left out", lit)
		}
	}
	closing := append(slices.Clone(l), row(6))
	for _, lit := range append(row(0, 1, 2, 3, 4, 5, 6, 7, 8, 9, 98, 99, units.Top), far...) {
		if !units.Implies(closing, row(2), lit) {
			t.Error("behind a clause's conflict", lit)
		}
		if !units.Implies(l, row(2, 3), lit) || !units.Implies(nil, row(3, 2), lit) {
			t.Error("behind a conflict of what is given", lit)
		}
		if !units.Implies(rows(nil), nil, lit) {
			t.Error("behind an empty clause", lit)
		}
	}
	if !units.Implies(nil, row(4), 4) || units.Implies(nil, row(4), 5) || units.Implies(nil, nil, 4) {
		t.Error("of what is given alone")
	}
	if !units.Implies(rows(row(units.Top)), nil, units.Top) || units.Implies(rows(row(units.Top)), nil, units.Top+1) {
		t.Error("Top")
	}
}

// R3, R4: what is handed in is as it was, spare room included, and nothing of it
// is in an answer, or kept.
func TestMemory(t *testing.T) {
	made := func() (l [][]int, given, lits []int) {
		l = rows(row(4, 3, 4, 70)[:3], row(6, 5, 71, 72)[:2], row(8, -1, 7, 73)[:3], row(74))
		return l[:3], row(2, -3, 2, 76, 77)[:3], row(5, 2, 4, -1, 78)[:4]
	}
	alike := func(a, b []int) bool { return slices.Equal(a[:cap(a)], b[:cap(b)]) }
	l, given, lits := made()
	wasL, wasGiven, wasLits := made()
	for range 2 {
		one, _ := units.Run(l, given)
		two, _ := units.Run(l, given)
		three, _ := units.Run(nil, given)
		a, b := units.Values(lits), units.Values(lits)
		units.Closes(l, given)
		units.Implies(l, given, 6)
		if !slices.Equal(one, row(2, 4, 6, 8)) || !slices.Equal(three, row(2)) || !slices.Equal(a, values(0, 1, 2)) {
			t.Fatal("not as ahead", one, three, a)
		}
		for _, o := range rows(one, three) {
			o = o[:cap(o)]
			for i := range o {
				o[i] = -9
			}
		}
		a = a[:cap(a)]
		for i := range a {
			a[i] = 9
		}
		if !slices.Equal(two, row(2, 4, 6, 8)) || !slices.Equal(b, values(0, 1, 2)) {
			t.Fatal("shared", two, b)
		}
		if !slices.EqualFunc(l[:4], wasL[:4], alike) || !alike(given, wasGiven) || !alike(lits, wasLits) {
			t.Fatal("changed", l[:4], given, lits)
		}
	}
	one, _ := units.Run(l, given)
	a := units.Values(lits)
	l[0][0], l[1], given[0], lits[0] = 9, row(9), 8, 4
	if !slices.Equal(one, row(2, 4, 6, 8)) || !slices.Equal(a, values(0, 1, 2)) {
		t.Error("changed with what was handed in", one, a)
	}
	run(t, l[1:], row(3), units.None, 3, 9, 7)
}
