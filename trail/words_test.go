package trail_test

import (
	"slices"
	"testing"

	"gantry/api"
	"gantry/atoms"
	"gantry/trail"
)

// An entry is a literal that was put, as the chapter's words have it.
type entry struct{ lit, level, reason int }

// words is a trail as they have it: n nodes, what was put, in order, and how many
// levels were begun.
type words struct {
	n, levels int
	puts      []entry
}

// of is what was put of a node.
func (w *words) of(node int) (entry, bool) {
	for _, p := range w.puts {
		if p.lit/2 == node {
			return p, true
		}
	}
	return entry{}, false
}

func (w *words) put(lit, reason int) api.Errno {
	if lit < 0 || lit/2 >= w.n || reason < -1 {
		return api.ErrArg
	}
	if _, is := w.of(lit / 2); is {
		return api.ErrThere
	}
	w.puts = append(w.puts, entry{lit, w.levels, reason})
	return api.OK
}

func (w *words) begin() api.Errno {
	if w.levels == 1<<16 {
		return api.ErrArg
	}
	w.levels++
	return api.OK
}

// back keeps what is at no greater level, wherever it stands.
func (w *words) back(level int) (gone []int, e api.Errno) {
	if level < 0 || level > w.levels {
		return nil, api.ErrArg
	}
	var left []entry
	for _, p := range w.puts {
		if p.level > level {
			gone = append([]int{p.lit}, gone...)
		} else {
			left = append(left, p)
		}
	}
	w.puts, w.levels = left, level
	return gone, api.OK
}

// val is 1 of what was put, 2 of what is not so, as its Neg was.
func (w *words) val(lit int) int8 {
	if lit < 0 {
		return 0
	}
	p, is := w.of(lit / 2)
	switch {
	case !is:
		return 0
	case p.lit == lit:
		return 1
	}
	return 2
}

// A pair are a trail, and what the words say of it.
type pair struct {
	x *trail.Trail
	w *words
}

func newPair(n int) pair { return pair{trail.New(n), &words{n: n}} }

// What may be done with a pair.
const (
	put = iota
	begins
	back
)

// An act is one of these: of a literal, or to a level.
type act struct{ kind, to, reason int }

// do does it, and fails, if what is answered is not what the words say.
func (p pair) do(t *testing.T, a act) {
	t.Helper()
	switch a.kind {
	case put:
		if e, want := p.x.Put(a.to, a.reason), p.w.put(a.to, a.reason); e != want {
			t.Fatal("Put", a.to, a.reason, e, "not", want)
		}
	case begins:
		if e, want := p.x.Begin(), p.w.begin(); e != want {
			t.Fatal("Begin", e, "not", want)
		}
	case back:
		l, e := p.x.Back(a.to)
		if want, is := p.w.back(a.to); !slices.Equal(l, want) || e != is {
			t.Fatal("Back", a.to, l, e, "not", want, is)
		}
	}
}

// nodes fails, unless what is told of each node, and of some that are none, is
// what the words say.
func (p pair) nodes(t *testing.T) {
	t.Helper()
	for node := -2; node < p.w.n+2; node++ {
		level, reason := -1, -1
		if e, is := p.w.of(node); is && node >= 0 {
			level, reason = e.level, e.reason
		}
		if p.x.Level(node) != level || p.x.Reason(node) != reason {
			t.Fatal("node", node, p.x.Level(node), p.x.Reason(node), "not", level, reason)
		}
	}
	for lit := -3; lit < 2*p.w.n+3; lit++ {
		if v, want := p.x.Val(lit), p.w.val(lit); v != want {
			t.Fatal("Val", lit, v, "not", want)
		}
	}
}

// hold fails, unless all that can be told of the trail is what the words say.
func (p pair) hold(t *testing.T) {
	t.Helper()
	p.nodes(t)
	var lits []int
	for _, e := range p.w.puts {
		lits = append(lits, e.lit)
	}
	if l := p.x.All(); !slices.Equal(l, lits) {
		t.Fatal("All", l, "not", lits)
	}
	for at := -2; at < len(lits)+3; at++ {
		want := lits
		for range at {
			if len(want) > 0 {
				want = want[1:]
			}
		}
		if l := p.x.Behind(at); !slices.Equal(l, want) {
			t.Fatal("Behind", at, l, "not", want)
		}
	}
	vals := make([]int8, p.w.n)
	for node := range vals {
		vals[node] = p.w.val(2 * node)
	}
	if l := p.x.Values(); !slices.Equal(l, vals) {
		t.Fatal("Values", l, "not", vals)
	}
	if n := p.x.Levels(); n != p.w.levels {
		t.Fatal("Levels", n, "not", p.w.levels)
	}
}

// shortActs are all that may be done with two nodes and few levels, and little
// that may not be done.
func shortActs() []act {
	l := []act{{kind: begins}, {put, 4, -1}, {put, 2, -2}}
	for lit := range 4 {
		l = append(l, act{put, lit, lit - 1})
	}
	for level := range 3 {
		l = append(l, act{back, level, 0})
	}
	return l
}

// P19.1, P19.2: all short rows of acts.
func TestShort(t *testing.T) {
	acts := shortActs()
	const long = 5
	rows := 1
	for range long {
		rows *= len(acts)
	}
	for row := range rows {
		p := newPair(2)
		for left := row; left > 0; left /= len(acts) {
			p.do(t, acts[left%len(acts)])
		}
		p.hold(t)
	}
}

// A draw is a row of numbers that looks like no rule, and is the same each time.
type draw uint64

// below is the next one, from 0 to n - 1.
func (d *draw) below(n int) int {
	*d = *d*6364136223846793005 + 1442695040888963407
	return int(uint64(*d) >> 33 % uint64(n))
}

// act is of one of n nodes and of one of so many levels, or now and then of none
// of these.
func (d *draw) act(n, levels int) act {
	switch d.below(12) {
	case 0:
		if d.below(3) > 0 { // seldom to a low one, so that many levels come about
			levels -= d.below(3)
			return act{back, levels, 0}
		}
		return act{back, d.below(levels+3) - 1, 0}
	case 1, 2, 3:
		return act{kind: begins}
	}
	return act{put, d.below(2*n+2) - d.below(30)/29, d.below(40) - 1 - d.below(30)/29}
}

// P19.1, P19.2: made rows of acts, held against the words behind each act.
func TestMade(t *testing.T) {
	d := draw(1)
	for range 1200 {
		n := d.below(30)
		p := newPair(n)
		for range 20 + d.below(100) {
			p.do(t, d.act(n, p.w.levels))
			p.hold(t)
		}
	}
}

// P19.1, P19.2: many nodes, held against the words now and then.
func TestMadeGreat(t *testing.T) {
	d := draw(2)
	for range 10 {
		n := 200 + d.below(400)
		p := newPair(n)
		for range 6 {
			for range n {
				if a := d.act(n, p.w.levels); a.kind != back || d.below(20) == 0 {
					p.do(t, a)
				}
			}
			p.hold(t)
		}
	}
}

// same fails, unless all that can be told of two trails of n nodes is the same.
func same(t *testing.T, x, y *trail.Trail, n int) {
	t.Helper()
	if x.Levels() != y.Levels() || !slices.Equal(x.All(), y.All()) || !slices.Equal(x.Values(), y.Values()) {
		t.Fatal(x.Levels(), x.All(), x.Values(), "not", y.Levels(), y.All(), y.Values())
	}
	for node := range n {
		if x.Level(node) != y.Level(node) || x.Reason(node) != y.Reason(node) {
			t.Fatal(node, x.Level(node), x.Reason(node), "not", y.Level(node), y.Reason(node))
		}
	}
}

// replay begins levels and puts again what went back, as it was told to be.
func replay(t *testing.T, x *trail.Trail, gone []int, was []entry, levels int) {
	t.Helper()
	slices.Reverse(gone)
	was = was[len(was)-len(gone):]
	for i, lit := range gone {
		for x.Levels() < was[i].level {
			ok(t, x.Begin())
		}
		ok(t, x.Put(lit, was[i].reason))
	}
	for x.Levels() < levels {
		ok(t, x.Begin())
	}
}

// P19.3: going back to a level, and putting the same again, is the same trail.
func TestAgain(t *testing.T) {
	d, went := draw(3), 0
	for range 1500 {
		n := d.below(25)
		p, q := newPair(n), newPair(n)
		for range d.below(80) {
			a := d.act(n, p.w.levels)
			p.do(t, a)
			q.do(t, a)
		}
		levels := p.x.Levels()
		for level := range levels + 1 {
			gone, e := p.x.Back(level)
			ok(t, e)
			went += len(gone)
			replay(t, p.x, gone, p.w.puts, levels)
			same(t, p.x, q.x, n)
			p.hold(t)
		}
	}
	if went < 10000 {
		t.Error("too few", went)
	}
}

// P19.3: levels on the trail do not fall, and Val of Neg is turned about.
func TestRising(t *testing.T) {
	d, rises, turned := draw(4), 0, 0
	for range 1500 {
		n := d.below(25)
		p := newPair(n)
		for range d.below(80) {
			p.do(t, d.act(n, p.w.levels))
		}
		last := 0
		for _, lit := range p.x.All() {
			level := p.x.Level(atoms.Node(lit))
			if level < last || level > p.x.Levels() {
				t.Fatal("falls", lit, level, "behind", last)
			}
			if level > last {
				rises++
			}
			last = level
		}
		for lit := range 2 * n {
			v, neg := p.x.Val(lit), p.x.Val(atoms.Neg(lit))
			if v != 0 {
				turned++
			}
			if neg != [...]int8{0, 2, 1}[v] {
				t.Fatal("Neg", lit, v, neg)
			}
		}
	}
	if rises < 1000 || turned < 10000 {
		t.Error("too few", rises, turned)
	}
}
