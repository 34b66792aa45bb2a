package clause_test

import (
	"slices"
	"testing"

	"gantry/atoms"
	"gantry/clause"
)

// least is the least literal of l above last, if there is one.
func least(l []int, last int) (int, bool) {
	o, ok := 0, false
	for _, lit := range l {
		if lit > last && (!ok || lit < o) {
			o, ok = lit, true
		}
	}
	return o, ok
}

// makeWords is Make: the literals one by one, each the least above the one ahead.
func makeWords(l []int) (c []int) {
	for lit, ok := least(l, -1); ok; lit, ok = least(l, lit) {
		c = append(c, lit)
	}
	return c
}

// isWords is Is.
func isWords(c []int) bool {
	for i, lit := range c {
		if lit < 0 {
			return false
		}
		for _, ahead := range c[:i] {
			if ahead >= lit {
				return false
			}
		}
	}
	return true
}

// idleWords is Idle.
func idleWords(c []int) bool {
	for _, lit := range c {
		for _, other := range c {
			if other == atoms.Neg(lit) {
				return true
			}
		}
	}
	return false
}

// sameWords is Same.
func sameWords(a, b []int) bool {
	for i := range max(len(a), len(b)) {
		if i >= len(a) || i >= len(b) || a[i] != b[i] {
			return false
		}
	}
	return true
}

// withinWords is Within.
func withinWords(a, b []int) bool {
	for _, lit := range a {
		in := 0
		for _, other := range b {
			if other == lit {
				in++
			}
		}
		if in == 0 {
			return false
		}
	}
	return true
}

// valWords is Val.
func valWords(a []int8, lit int) int8 {
	node := int8(0)
	for id, v := range a {
		if lit >= 0 && id == atoms.Node(lit) {
			node = v
		}
	}
	switch {
	case node == 1 && !atoms.Is(lit), node == 2 && atoms.Is(lit):
		return 1
	case node == 2 && !atoms.Is(lit), node == 1 && atoms.Is(lit):
		return 2
	}
	return 0
}

// stateWords is State, by how many literals have each value.
func stateWords(c []int, a []int8) (int8, int) {
	n, open := [3]int{}, -1
	for _, lit := range c {
		v := valWords(a, lit)
		n[v]++
		if v == 0 {
			open = lit
		}
	}
	switch {
	case n[1] > 0:
		return clause.StTrue, -1
	case n[2] == len(c):
		return clause.StFalse, -1
	case n[2] == len(c)-1:
		return clause.StUnit, open
	}
	return clause.StOpen, -1
}

// holdsWords is Holds.
func holdsWords(l [][]int, a []int8) bool {
	n := 0
	for _, c := range l {
		if s, _ := stateWords(c, a); s == clause.StTrue {
			n++
		}
	}
	return n == len(l)
}

// resolveWords is Resolve.
func resolveWords(a, b []int, lit int) ([]int, bool) {
	if lit < 0 || !withinWords([]int{lit}, a) || !withinWords([]int{atoms.Neg(lit)}, b) {
		return nil, false
	}
	var l []int
	for _, other := range a {
		if other != lit {
			l = append(l, other)
		}
	}
	for _, other := range b {
		if other != atoms.Neg(lit) {
			l = append(l, other)
		}
	}
	return makeWords(l), true
}

// holdOne holds the calls of one row against a second reading of the chapter.
func holdOne(t *testing.T, c []int) {
	t.Helper()
	if o := clause.Make(c); !slices.Equal(o, makeWords(c)) {
		t.Fatal("Make", c, o)
	}
	if is := clause.Is(c); is != isWords(c) {
		t.Fatal("Is", c, is)
	}
	if is := clause.Idle(c); is != idleWords(c) {
		t.Fatal("Idle", c, is)
	}
}

// holdTwo holds the calls of two rows.
func holdTwo(t *testing.T, a, b []int, lits []int) {
	t.Helper()
	if is := clause.Same(a, b); is != sameWords(a, b) {
		t.Fatal("Same", a, b, is)
	}
	if is := clause.Within(a, b); is != withinWords(a, b) {
		t.Fatal("Within", a, b, is)
	}
	for _, lit := range lits {
		want, is := resolveWords(a, b, lit)
		if c, ok := clause.Resolve(a, b, lit); ok != is || !slices.Equal(c, want) {
			t.Fatal("Resolve", a, b, lit, c, ok, "not", want, is)
		}
	}
}

// holdIn holds the calls of rows in an assignment.
func holdIn(t *testing.T, l [][]int, a []int8) {
	t.Helper()
	for _, c := range l {
		for _, lit := range c {
			if v := clause.Val(a, lit); v != valWords(a, lit) {
				t.Fatal("Val", a, lit, v)
			}
		}
		want, open := stateWords(c, a)
		if s, lit := clause.State(c, a); s != want || lit != open {
			t.Fatal("State", c, a, s, lit, "not", want, open)
		}
	}
	if is := clause.Holds(l, a); is != holdsWords(l, a) {
		t.Fatal("Holds", l, a, is)
	}
}

// rows are all of at most n of these.
func rows[T any](n int, of ...T) [][]T {
	all := [][]T{nil}
	for at := 0; n > 0; n-- {
		for end := len(all); at < end; at++ {
			for _, x := range of {
				all = append(all, append(slices.Clone(all[at]), x))
			}
		}
	}
	return all
}

// clauses are all of these nodes' literals.
func clauses(nodes int) [][]int {
	all := make([][]int, 1<<(2*nodes))
	for set := range all {
		for lit := range 2 * nodes {
			if set>>lit&1 != 0 {
				all[set] = append(all[set], lit)
			}
		}
	}
	return all
}

// P15.1: all short rows held against a second reading.
func TestShortRows(t *testing.T) {
	for _, c := range rows(5, -2, -1, 0, 1, 2, 3, 5) {
		holdOne(t, c)
	}
}

// P15.1, P15.3: all short pairs of rows.
func TestShortPairs(t *testing.T) {
	all := rows(3, -2, -1, 2, 3, 5)
	for _, a := range all {
		for _, b := range all {
			holdTwo(t, a, b, []int{-2, -1, 2, 3, 4, 5})
		}
	}
}

// P15.2: all short rows in all short assignments.
func TestShortAssignments(t *testing.T) {
	all := rows(3, -1, 0, 1, 2, 3, 4, 5, 6)
	for _, a := range rows[int8](3, -1, 0, 1, 2, 3) {
		for _, c := range all {
			holdIn(t, [][]int{c}, a)
		}
	}
	l := rows(2, 0, 1, 2, 3)
	for _, a := range rows[int8](2, 0, 1, 2) {
		for _, c := range l {
			for _, d := range l {
				holdIn(t, [][]int{c, d}, a)
			}
		}
	}
}

// A draw gives numbers that are alike each time.
type draw uint64

// below is a number from 0 to n - 1.
func (d *draw) below(n int) int {
	*d = *d*6364136223846793005 + 1442695040888963407
	return int(uint64(*d) >> 33 % uint64(n))
}

// row is one of at most that many, of literals of that many nodes, seldom of
// other numbers.
func (d *draw) row(n, nodes int) []int {
	l := make([]int, d.below(n+1))
	for i := range l {
		l[i] = d.below(2 * nodes)
		if d.below(40) == 0 {
			l[i] = far[d.below(len(far))]
		}
	}
	return l
}

// assignment is one of that many nodes: values that are none stand there seldom,
// open ones one of so many times.
func (d *draw) assignment(nodes, open int) []int8 {
	a := make([]int8, nodes)
	for i := range a {
		a[i] = int8(1 + d.below(2))
		if d.below(open) == 0 {
			a[i] = 0
		}
		if d.below(30) == 0 {
			a[i] = int8(d.below(256) - 128)
		}
	}
	return a
}

// P15.1, P15.2, P15.3: made rows of any length held against a second reading.
func TestMade(t *testing.T) {
	d, states, idle, within, resolved, holds := draw(1), [clause.StOpen + 1]int{}, 0, 0, 0, 0
	for range 20000 {
		nodes := 1 + d.below(12)
		a, b := d.row(12, nodes), d.row(12, nodes)
		switch d.below(4) {
		case 0: // some of b's
			a = slices.Clone(b[:d.below(len(b)+1)])
			slices.Reverse(a)
		case 1:
			a, b = clause.Make(a), clause.Make(b)
		}
		holdOne(t, a)
		holdTwo(t, a, b, slices.Concat(a, b, far))
		val := d.assignment(d.below(nodes+2), []int{2, 8, 100}[d.below(3)])
		holdIn(t, [][]int{a, b}, val)
		s, _ := clause.State(a, val)
		states[s]++
		count := func(n *int, is bool) {
			if is {
				*n++
			}
		}
		count(&idle, clause.Idle(a))
		count(&within, clause.Within(a, b) && len(a) > 1)
		count(&holds, clause.Holds([][]int{a, b}, val))
		for _, lit := range a {
			_, ok := clause.Resolve(a, b, lit)
			count(&resolved, ok)
		}
	}
	if slices.Min(states[:]) < 1000 || idle < 3000 || idle > 17000 || within < 2000 || resolved < 5000 || holds < 2000 {
		t.Error("too few", states, idle, within, resolved, holds)
	}
}

// R1: whatever they are given, all calls end, and tell what the words say.
func TestWhatever(t *testing.T) {
	all := append(rows(2, far...), row(far...), row(append(far, far...)...))
	for _, c := range all {
		holdOne(t, c)
		holdIn(t, [][]int{c, nil, c}, nil)
		holdIn(t, [][]int{c}, []int8{1, 2, -128, 127})
		for _, d := range all[:40] {
			holdTwo(t, c, d, far)
			holdTwo(t, d, c, far)
		}
	}
}

// P15.4: a clause that is not idle is false in some assignment, an idle one in
// none.
func TestFalseSomewhere(t *testing.T) {
	assignments := rows[int8](3, 0, 1, 2)
	for _, c := range clauses(3) {
		if !clause.Is(c) {
			t.Fatal(c)
		}
		somewhere := false
		for _, a := range assignments {
			s, _ := clause.State(c, a)
			somewhere = somewhere || s == clause.StFalse
		}
		if somewhere == clause.Idle(c) {
			t.Error(c, somewhere)
		}
	}
}

// P15.4: what a and b hold in, where all is assigned, Resolve holds in; and what
// it answers has nothing but their literals.
func TestResolveHolds(t *testing.T) {
	all, seen := clauses(3), 0
	for _, a := range all {
		for _, b := range all {
			for lit := range 6 {
				c, ok := clause.Resolve(a, b, lit)
				if !ok {
					continue
				}
				seen++
				if !clause.Is(c) || !clause.Within(c, slices.Concat(a, b)) {
					t.Fatal(a, b, lit, c)
				}
				for i := range 8 {
					val := []int8{int8(1 + i&1), int8(1 + i>>1&1), int8(1 + i>>2)}
					if clause.Holds([][]int{a, b}, val) && !clause.Holds([][]int{c}, val) {
						t.Fatal(a, b, lit, c, val)
					}
				}
			}
		}
	}
	if want := 6 * len(all) * len(all) / 4; seen != want {
		t.Error(seen, "not", want)
	}
}

// P15.4: so it is with made clauses of more nodes.
func TestResolveHoldsMade(t *testing.T) {
	const nodes = 9
	d, seen := draw(2), 0
	for range 4000 {
		a, b := clause.Make(d.row(8, nodes)), clause.Make(d.row(8, nodes))
		for _, lit := range a {
			c, ok := clause.Resolve(a, b, lit)
			for i := 0; ok && i < 1<<nodes; i++ {
				val := make([]int8, nodes)
				for id := range val {
					val[id] = int8(1 + i>>id&1)
				}
				if clause.Holds([][]int{a, b}, val) && !clause.Holds([][]int{c}, val) {
					t.Fatal(a, b, lit, c, val)
				}
			}
			if ok {
				seen++
			}
		}
	}
	if seen < 2000 {
		t.Error("too few", seen)
	}
}
