package rup_test

import (
	"slices"
	"testing"

	"gantry/clause"
	"gantry/rup"
	"gantry/units"
)

// openOf are the literals of c that are not false, each once; none, and true, if
// one of them is true.
func openOf(c []int, lits map[int]int) (open []int, is bool) {
	for _, lit := range c {
		switch {
		case lit < 0 || lit > 1<<20 || lits[lit^1] > 0: // left out, or false
		case lits[lit] > 0:
			return nil, true
		case !slices.Contains(open, lit):
			open = append(open, lit)
		}
	}
	return open, false
}

// followsWords is Follows: whichever clause is unit is gone over again.
func followsWords(l [][]int, c []int) bool {
	lits := map[int]int{}
	for _, lit := range c {
		neg := lit ^ 1
		if lit < 0 || neg > 1<<20 {
			continue
		}
		if lits[lit] > 0 {
			return true
		}
		lits[neg]++
	}
	for put := true; put; {
		put = false
		for _, c := range l {
			open, is := openOf(c, lits)
			if is {
				continue
			}
			switch len(open) {
			case 0:
				return true
			case 1:
				lits[open[0]]++
				put = true
			}
		}
	}
	return false
}

// rowWords is Row.
func rowWords(l, steps [][]int) int {
	for at, step := range steps {
		if !followsWords(l, step) {
			return at
		}
		l = append(slices.Clone(l), step)
	}
	return -1
}

// refutesWords is Refutes.
func refutesWords(l, steps [][]int) bool {
	empty := false
	for _, step := range steps {
		empty = len(step) == 0
	}
	return empty && rowWords(l, steps) < 0
}

// coreWords is Core: each clause is left out, from the last one on.
func coreWords(l [][]int, c []int) (places []int) {
	if !followsWords(l, c) {
		return nil
	}
	for at := len(l) - 1; at >= 0; at-- {
		left := slices.Clone(l[:at])
		for _, kept := range places {
			left = append(left, l[kept])
		}
		if !followsWords(left, c) {
			places = append([]int{at}, places...)
		}
	}
	return places
}

// holdFollows holds Follows and Core against a second reading of the chapter.
func holdFollows(t *testing.T, l [][]int, c []int) (is bool, places []int) {
	t.Helper()
	is = rup.Follows(l, c)
	if is != followsWords(l, c) {
		t.Fatal("Follows", l, c, is)
	}
	places = rup.Core(l, c)
	if want := coreWords(l, c); !slices.Equal(places, want) {
		t.Fatal("Core", l, c, places, "not", want)
	}
	return is, places
}

// holdRow holds Row and Refutes against it.
func holdRow(t *testing.T, l, steps [][]int) int {
	t.Helper()
	at := rup.Row(l, steps)
	if want := rowWords(l, steps); at != want {
		t.Fatal("Row", l, steps, at, "not", want)
	}
	if is := rup.Refutes(l, steps); is != refutesWords(l, steps) {
		t.Fatal("Refutes", l, steps, is)
	}
	return at
}

// short are all rows of at most n of these.
func short[T any](n int, of ...T) [][]T {
	all := [][]T{nil}
	for at := 0; n > 0; n-- {
		for end := len(all); at < end; at++ {
			for _, x := range of {
				all = append(all, append(slices.Clone(all[at]), x))
			}
		}
	}
	return all
}

// P17.1, P17.2: all short rows of short clauses held against a second reading.
func TestShort(t *testing.T) {
	lits := row(-1, 2, 3, 4, 5, units.Top+2)
	some := short(2, row(), row(2), row(3), row(2, 4), row(5, 3), row(2, 2), row(3, 5, 4), row(-1, 4), row(5, units.Top+2, 5))
	for _, l := range some {
		for _, c := range short(3, lits...) {
			holdFollows(t, l, c)
		}
		for _, steps := range short(3, row(), row(2), row(3, 4), row(5), row(-1, 2)) {
			holdRow(t, l, steps)
		}
	}
	for _, l := range short(3, short(2, 2, 3, 4, 7)...) {
		for _, c := range rows(nil, row(2), row(3, 4)) {
			holdFollows(t, l, c)
		}
	}
}

// A draw gives numbers that are alike each time.
type draw uint64

// below is a number from 0 to n - 1.
func (d *draw) below(n int) int {
	*d = *d*6364136223846793005 + 1442695040888963407
	return int(uint64(*d) >> 33 % uint64(n))
}

// lits are at most so many literals of that many nodes, seldom other numbers.
func (d *draw) lits(least, most, nodes int) []int {
	l := make([]int, least+d.below(most-least+1))
	for i := range l {
		l[i] = d.below(2 * nodes)
		if d.below(60) == 0 {
			l[i] = far[d.below(len(far))]
		}
	}
	return l
}

// rows are at most so many rows of literals.
func (d *draw) rows(most, nodes int) (l [][]int) {
	of := 1 + d.below(3)
	for range d.below(most) {
		l = append(l, d.lits(min(2, of), 1+of, nodes))
	}
	return l
}

// P17.1, P17.2: made rows held against a second reading.
func TestMade(t *testing.T) {
	d, is, not, long := draw(1), 0, 0, 0
	for range 12000 {
		nodes := 2 + d.below(14)
		l := d.rows(3*nodes, nodes)
		follows, places := holdFollows(t, l, d.lits(0, 4, nodes))
		if follows {
			is++
		} else {
			not++
		}
		if len(places) > 3 {
			long++
		}
	}
	if is < 2000 || not < 2000 || long < 400 {
		t.Error("too few", is, not, long)
	}
}

// P17.1, P17.2: made rows of steps held against a second reading.
func TestMadeSteps(t *testing.T) {
	d, all, some, refuted := draw(2), 0, 0, 0
	for range 6000 {
		nodes := 2 + d.below(6)
		l := d.rows(4*nodes, nodes)
		var steps [][]int
		for range d.below(8) {
			step := d.lits(0, 3, nodes)
			if d.below(4) > 0 && !followsWords(slices.Concat(l, steps), step) {
				continue
			}
			steps = append(steps, step)
		}
		if d.below(3) == 0 {
			steps = append(steps, nil)
		}
		switch at := holdRow(t, l, steps); {
		case at < 0:
			all++
		case at > 0:
			some++
		}
		if rup.Refutes(l, steps) {
			refuted++
		}
	}
	if all < 1000 || some < 500 || refuted < 300 {
		t.Error("too few", all, some, refuted)
	}
}

// R1: whatever they are given, all calls end, and tell what the words say.
func TestWhatever(t *testing.T) {
	all := append(short(2, far...), far, slices.Concat(far, row(4), far), row(units.Top), row(units.Top+1), row(units.Top, units.Top+1))
	for i, c := range all {
		d := all[(i*7+3)%len(all)]
		holdFollows(t, rows(c, nil), d)
		holdFollows(t, rows(row(2), c, d), append(row(3), c...))
		holdFollows(t, all[:i%20], d)
		holdFollows(t, nil, c)
		holdRow(t, rows(append(row(2), c...)), rows(append(row(2), d...), c, nil, d))
		holdRow(t, all[i%20:i%20+2], rows(c, d, nil))
	}
}

// assignments are all of that many nodes.
func assignments(nodes int) [][]int8 {
	var all [][]int8
	for set := range 1 << nodes {
		a := make([]int8, nodes)
		for node := range a {
			a[node] = int8(1 + set>>node&1)
		}
		all = append(all, a)
	}
	return all
}

// clauses are so many of these nodes; two and three literals each.
func (d *draw) clauses(many, nodes int) (l [][]int) {
	for range many {
		c := row(d.below(2*nodes), d.below(2*nodes), d.below(2*nodes))
		l = append(l, clause.Make(c[:2+d.below(2)]))
	}
	return l
}

// sound fails, if c follows, but is not true in an assignment in which all of l
// are; it tells in how many they are.
func sound(t *testing.T, l [][]int, c []int, all [][]int8) (models int) {
	t.Helper()
	is := rup.Follows(l, c)
	for _, a := range all {
		if !clause.Holds(l, a) {
			continue
		}
		models++
		if is && !clause.Holds(rows(c), a) {
			t.Fatal(l, c, a)
		}
	}
	return models
}

// P17.3: what follows holds wherever the clauses hold.
func TestHolds(t *testing.T) {
	all := assignments(3)
	for _, l := range short(2, short(2, 0, 1, 2, 3, 4)...) {
		for _, c := range short(2, 0, 1, 2, 3, 5) {
			sound(t, l, c, all)
		}
	}
	const nodes = 6
	d, all, models, none := draw(3), assignments(nodes), 0, 0
	for range 6000 {
		l := d.clauses(4+d.below(20), nodes)
		c := clause.Make(d.lits(0, 3, nodes))
		if !rup.Follows(l, c) {
			continue
		}
		if sound(t, l, c, all) > 0 {
			models++
		} else {
			none++
		}
	}
	if models < 500 || none < 50 {
		t.Error("too few", models, none)
	}
}

// P17.3: what follows from some follows from more, in whatever order, and as a
// clause of more literals; what Core leaves is enough, and none of it too much.
func TestMore(t *testing.T) {
	d, seen, left := draw(4), 0, 0
	for range 8000 {
		nodes := 3 + d.below(8)
		l, c := d.rows(4*nodes, nodes), d.lits(0, 3, nodes)
		if !rup.Follows(l, c) {
			continue
		}
		seen++
		more := slices.Clone(l)
		for range 1 + d.below(4) {
			more = slices.Insert(more, d.below(len(more)+1), d.lits(0, 3, nodes+2))
		}
		for i := range more {
			j := d.below(i + 1)
			more[i], more[j] = more[j], more[i]
		}
		if !rup.Follows(more, c) || !rup.Follows(l, append(d.lits(1, 2, nodes), c...)) {
			t.Fatal("not from more", l, more, c)
		}
		var core [][]int
		for _, at := range rup.Core(l, c) {
			core = append(core, l[at])
		}
		if !rup.Follows(core, c) {
			t.Fatal("too few are left", l, c, core)
		}
		for at := range core {
			left++
			if rup.Follows(slices.Delete(slices.Clone(core), at, at+1), c) {
				t.Fatal("too many are left", l, c, core)
			}
		}
	}
	if seen < 2000 || left < 3000 {
		t.Error("too few", seen, left)
	}
}

// tree are clauses of all ways to decide the nodes from that one on, each behind
// those that decide one more; the last one has the literals ahead alone.
func tree(ahead []int, node, nodes int) (steps [][]int) {
	if node < nodes {
		for lit := 2 * node; lit <= 2*node+1; lit++ {
			steps = append(steps, tree(append(slices.Clone(ahead), lit), node+1, nodes)...)
		}
	}
	return append(steps, ahead)
}

// P17.3: if Refutes, no assignment makes all hold; and where none does, deciding
// all nodes refutes them.
func TestRefuted(t *testing.T) {
	const nodes = 5
	d, all, steps := draw(5), assignments(nodes), tree(nil, 0, nodes)
	sat, unsat := 0, 0
	for range 800 {
		l := d.clauses(8+d.below(20), nodes)
		models := sound(t, l, nil, all)
		if models > 0 {
			sat++
		} else {
			unsat++
		}
		if is := rup.Refutes(l, steps); is != (models == 0) {
			t.Fatal(l, models, is)
		}
		if holdRow(t, l, steps) < 0 != (models == 0) {
			t.Fatal("Row", l, models)
		}
		some := append(d.clauses(4, nodes), nil)
		if rup.Refutes(l, some) && models > 0 {
			t.Fatal("refuted", l, some, models)
		}
	}
	if sat < 150 || unsat < 150 {
		t.Error("too few", sat, unsat)
	}
}
