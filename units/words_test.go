package units_test

import (
	"slices"
	"testing"

	"gantry/atoms"
	"gantry/clause"
	"gantry/units"
)

// counted are the literals that are not left out.
func counted(l []int) []int {
	var o []int
	for _, lit := range l {
		if 0 <= lit && lit <= 1<<20 {
			o = append(o, lit)
		}
	}
	return o
}

// has tells whether the literal was put.
func has(lits []int, lit int) bool { return slices.Contains(lits, lit) }

// giveWords puts what is given.
func giveWords(given []int) (lits []int, conflict int) {
	for _, lit := range counted(given) {
		if has(lits, atoms.Neg(lit)) {
			return lits, units.Given
		}
		if !has(lits, lit) {
			lits = append(lits, lit)
		}
	}
	return lits, units.None
}

// openOf are the literals of c that are not false, each once; none, and true, if
// one of them is true.
func openOf(c, lits []int) (open []int, is bool) {
	for _, lit := range counted(c) {
		if has(lits, lit) {
			return nil, true
		}
		if !has(lits, atoms.Neg(lit)) && !has(open, lit) {
			open = append(open, lit)
		}
	}
	return open, false
}

// runWords is Run: all clauses are gone over for each literal that is put.
func runWords(l [][]int, given []int) (lits []int, conflict int) {
	lits, conflict = giveWords(given)
	for conflict == units.None {
		unit := -1
		for at, c := range l {
			open, is := openOf(c, lits)
			if is {
				continue
			}
			if len(open) == 0 {
				return lits, at
			}
			if len(open) == 1 && unit < 0 {
				unit = open[0]
			}
		}
		if unit < 0 {
			break
		}
		lits = append(lits, unit)
	}
	return lits, conflict
}

// valuesWords is Values, node by node.
func valuesWords(lits []int) (a []int8) {
	l := counted(lits)
	for node := 0; len(l) > 0 && node <= slices.Max(l)/2; node++ {
		v := int8(0)
		for _, lit := range l {
			if v == 0 && lit/2 == node {
				v = int8(1 + lit%2)
			}
		}
		a = append(a, v)
	}
	return a
}

// hold holds the calls against a second reading of the chapter.
func hold(t *testing.T, l [][]int, given []int) (lits []int, conflict int) {
	t.Helper()
	want, k := runWords(l, given)
	lits, conflict = units.Run(l, given)
	if !slices.Equal(lits, want) || conflict != k {
		t.Fatal("Run", l, given, lits, conflict, "not", want, k)
	}
	if is := units.Closes(l, given); is != (k != units.None) {
		t.Fatal("Closes", l, given, is)
	}
	return lits, conflict
}

// holdImplies holds Implies of each of some literals.
func holdImplies(t *testing.T, l [][]int, given, of []int) {
	t.Helper()
	want, k := runWords(l, given)
	for _, lit := range of {
		if is := units.Implies(l, given, lit); is != (k != units.None || has(want, lit)) {
			t.Fatal("Implies", l, given, lit, is)
		}
	}
}

// holdValues holds Values.
func holdValues(t *testing.T, lits []int) {
	t.Helper()
	if a := units.Values(lits); !slices.Equal(a, valuesWords(lits)) {
		t.Fatal("Values", lits, a)
	}
}

// short are all rows of at most n of these.
func short[T any](n int, of ...T) [][]T {
	all := [][]T{nil}
	for at := 0; n > 0; n-- {
		for end := len(all); at < end; at++ {
			for _, x := range of {
				all = append(all, append(slices.Clone(all[at]), x))
			}
		}
	}
	return all
}

// P16.1, P16.2: all short rows of short clauses held against a second reading.
func TestShort(t *testing.T) {
	lits := row(-1, 2, 3, 4, 5, units.Top+1)
	some := short(2, row(), row(2), row(3), row(2, 4), row(5, 3), row(2, 2), row(3, 5, 4), row(-1, 4), row(5, units.Top+1, 5))
	for _, given := range short(2, lits...) {
		holdValues(t, given)
		for _, c := range short(3, lits...) {
			hold(t, rows(c), given)
		}
		for _, l := range some {
			hold(t, l, given)
			holdImplies(t, l, given, lits)
		}
	}
	for _, given := range short(1, 2, 3, 6) {
		for _, l := range short(3, short(2, 2, 3, 4, 5, 6)...) {
			hold(t, l, given)
		}
	}
}

// P16.1: Values of all short rows.
func TestShortValues(t *testing.T) {
	for _, l := range short(5, -1, 0, 1, 4, 5, 9, units.Top+1) {
		holdValues(t, l)
	}
}

// A draw gives numbers that are alike each time.
type draw uint64

// below is a number from 0 to n - 1.
func (d *draw) below(n int) int {
	*d = *d*6364136223846793005 + 1442695040888963407
	return int(uint64(*d) >> 33 % uint64(n))
}

// lits are at most so many literals of that many nodes, seldom other numbers.
func (d *draw) lits(least, most, nodes int) []int {
	l := make([]int, least+d.below(most-least+1))
	for i := range l {
		l[i] = d.below(2 * nodes)
		if d.below(60) == 0 {
			l[i] = far[d.below(len(far))]
		}
	}
	return l
}

// problem are clauses of that many nodes, and what is given. Clauses of two
// literals, of which there are many, make long runs.
func (d *draw) problem(nodes int) (l [][]int, given []int) {
	of := 1 + d.below(3)
	for range d.below(3 * nodes) {
		l = append(l, d.lits(min(2, of), 1+of, nodes))
	}
	return l, d.lits(0, 3, nodes)
}

// P16.1, P16.2: made problems held against a second reading.
func TestMade(t *testing.T) {
	d, none, given, clauses, long := draw(1), 0, 0, 0, 0
	for range 30000 {
		l, g := d.problem(2 + d.below(24))
		lits, conflict := hold(t, l, g)
		holdImplies(t, l, g, slices.Concat(lits[:min(2, len(lits))], d.lits(2, 2, 24)))
		holdValues(t, lits)
		switch {
		case conflict == units.Given:
			given++
		case conflict == units.None:
			none++
		default:
			clauses++
		}
		if len(lits) > len(g)+4 {
			long++
		}
	}
	if none < 4000 || given < 500 || clauses < 4000 || long < 3000 {
		t.Error("too few", none, given, clauses, long)
	}
}

// P16.1: made problems of literals that are far apart, up to Top.
func TestFarApart(t *testing.T) {
	d, put := draw(2), 0
	for range 400 {
		l, g := d.problem(20)
		apart := func(c []int) {
			for i, lit := range c {
				if lit >= 0 && lit < 40 {
					c[i] = lit>>1*(units.Top/38)&^1 | lit&1
				}
			}
		}
		for _, c := range append(slices.Clone(l), g) {
			apart(c)
		}
		lits, _ := hold(t, l, g)
		put += len(lits)
	}
	if put < 1000 {
		t.Error("too few", put)
	}
}

// R1: whatever they are given, all calls end, and tell what the words say.
func TestWhatever(t *testing.T) {
	all := append(short(2, far...), far, slices.Concat(far, row(4), far))
	for i, c := range all {
		d := all[(i*7+3)%len(all)]
		hold(t, rows(c, nil), d)
		hold(t, rows(row(2), c, d), c)
		hold(t, all[:i%20], d)
		holdImplies(t, rows(append(slices.Clone(c), 6)), d, far)
		holdValues(t, slices.Concat(c, d))
	}
}

// assignments are all of that many nodes.
func assignments(nodes int) [][]int8 {
	var all [][]int8
	for set := range 1 << nodes {
		a := make([]int8, nodes)
		for node := range a {
			a[node] = int8(1 + set>>node&1)
		}
		all = append(all, a)
	}
	return all
}

// ones are clauses of one literal each.
func ones(lits []int) [][]int {
	var l [][]int
	for _, lit := range lits {
		l = append(l, row(lit))
	}
	return l
}

// sound fails, unless what is put holds in each assignment in which the clauses
// and what is given hold; it tells in how many they do.
func sound(t *testing.T, l [][]int, given []int, all [][]int8) int {
	t.Helper()
	lits, conflict := units.Run(l, given)
	models := 0
	for _, a := range all {
		if !clause.Holds(l, a) || !clause.Holds(ones(given), a) {
			continue
		}
		models++
		if conflict != units.None {
			t.Fatal("behind a conflict", l, given, conflict, a)
		}
		if !clause.Holds(ones(lits), a) {
			t.Fatal("put", l, given, lits, a)
		}
	}
	return models
}

// P16.3: what is put holds in each assignment in which the clauses and what is
// given hold; behind a conflict there is none.
func TestHolds(t *testing.T) {
	all := assignments(3)
	for _, given := range short(2, 0, 1, 2, 5) {
		for _, l := range short(2, short(2, 0, 1, 2, 3, 4)...) {
			sound(t, l, given, all)
		}
	}
	const nodes = 8
	d, all, models, put := draw(3), assignments(nodes), 0, 0
	for range 3000 {
		l, g := d.problem(nodes)
		for i, c := range l {
			l[i] = counted(c)
		}
		g = counted(g)
		if sound(t, l, g, all) > 0 {
			models++
			lits, _ := units.Run(l, g)
			put += len(lits) - len(g)
		}
	}
	if models < 600 || put < 600 {
		t.Error("too few", models, put)
	}
}

// P16.3: where nothing is left to do, no clause is false or unit, and what was
// put is told by Values, with nothing open or turned about.
func TestNothingLeft(t *testing.T) {
	d, seen := draw(4), 0
	for range 4000 {
		l, g := d.problem(12)
		lits, conflict := units.Run(l, g)
		a := units.Values(lits)
		for _, lit := range lits {
			if clause.Val(a, lit) != 1 {
				t.Fatal("twice, or not there", lits, lit, a)
			}
		}
		for at, c := range l {
			s, lit := clause.State(clause.Make(counted(c)), a)
			if conflict == units.None && (s == clause.StFalse || s == clause.StUnit) {
				t.Fatal(l, g, lits, at, lit)
			}
			if at == conflict && s != clause.StFalse || at < conflict && s == clause.StFalse {
				t.Fatal(l, g, lits, at, conflict)
			}
		}
		if conflict == units.None && len(l) > 0 {
			seen++
		}
	}
	if seen < 500 {
		t.Error("too few", seen)
	}
}

// less fails, unless more is put of more, or there is a conflict.
func less(t *testing.T, l, more [][]int, given, also []int) (closes bool) {
	t.Helper()
	lits, conflict := units.Run(l, given)
	behind, k := units.Run(more, also)
	if k != units.None {
		return true
	}
	if conflict != units.None || !clause.Within(lits, behind) {
		t.Fatal("less", l, more, given, also, lits, behind)
	}
	return false
}

// P16.3: with more clauses and more given no less is put, or there is a conflict.
func TestMore(t *testing.T) {
	all := short(2, short(2, 2, 3, 4, 7)...)
	for _, given := range short(1, 2, 3) {
		for _, l := range all {
			for _, c := range short(2, 2, 5, 6) {
				less(t, l, append(slices.Clone(l), c), given, given)
				less(t, l, append(rows(c), l...), given, given)
			}
			for lit := range 8 {
				less(t, l, l, given, append(slices.Clone(given), lit))
				less(t, l, l, given, append(row(lit), given...))
			}
		}
	}
	d, closed, open := draw(5), 0, 0
	for range 8000 {
		l, g := d.problem(3 + d.below(16))
		more, also := slices.Clone(l), slices.Clone(g)
		for range 1 + d.below(4) {
			more = slices.Insert(more, d.below(len(more)+1), d.lits(1, 3, 16))
			also = slices.Insert(also, d.below(len(also)+1), d.lits(1, 1, 16)...)
		}
		for _, m := range [][][]int{l, more} {
			if less(t, l, m, g, also) {
				closed++
			} else {
				open++
			}
			less(t, l, more, g, g)
		}
	}
	if closed < 2000 || open < 2000 {
		t.Error("too few", closed, open)
	}
}

// P16.3: in whatever order clauses stand, the same is put, or there is a
// conflict.
func TestOtherOrder(t *testing.T) {
	d, seen, turned := draw(6), 0, 0
	for range 8000 {
		l, g := d.problem(2 + d.below(16))
		other := slices.Clone(l)
		for i := range other {
			j := d.below(i + 1)
			other[i], other[j] = other[j], other[i]
		}
		lits, conflict := units.Run(l, g)
		lits2, k := units.Run(other, g)
		if (conflict == units.None) != (k == units.None) {
			t.Fatal(l, other, g, conflict, k)
		}
		if k != units.None {
			continue
		}
		if !slices.Equal(lits, lits2) {
			turned++
		}
		if len(lits) > len(g) {
			seen++
		}
		if slices.Sort(lits); !slices.Equal(lits, slices.Sorted(slices.Values(lits2))) {
			t.Fatal(l, other, g, lits, lits2)
		}
	}
	if seen < 1000 || turned < 300 {
		t.Error("too few", seen, turned)
	}
}
