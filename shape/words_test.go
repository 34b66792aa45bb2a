package shape_test

import (
	"math"
	"slices"
	"strings"
	"testing"

	"gantry/api"
	"gantry/atoms"
	"gantry/core"
	"gantry/eval"
	"gantry/offset"
	"gantry/shape"
	"gantry/term"
	"gantry/typing"
	"gantry/value"
)

// isPlace tells whether there is such a node.
func isPlace(u api.Table, id int) bool { return 0 <= id && id < len(u.Nodes) }

// told is the chapter's line on the node at id, and the letters of its Args.
func told(u api.Table, id int) (line, letters string) {
	n := u.Nodes[id]
	sort := func(i int) int { return u.Nodes[n.Args[i]].Sort }
	switch {
	case n.Op == api.OpTrue:
		return "t", ""
	case n.Op == api.OpAnd:
		return "~t a; ~t b; t ~a ~b", "ab"
	case n.Op == api.OpOr:
		return "t ~a; t ~b; ~t a b", "ab"
	case n.Op == api.OpEq && sort(0) == api.Bool && sort(1) == api.Bool:
		return "~t ~a b; ~t a ~b; t a b; t ~a ~b", "ab"
	case n.Op == api.OpIte && n.Sort == api.Bool:
		return "~t ~c a; ~t c b; t ~c ~a; t c ~b", "cab"
	case n.Op == api.OpIte && n.Sort == api.Int:
		return "~c i-a; ~c a-i; c i-b; c b-i", "cab"
	case n.Op == api.OpIte:
		return "~c i=a; c i=b", "cab"
	}
	return "", ""
}

// place is the one that a letter stands for, of the node at id.
func place(u api.Table, id int, letters string, letter byte) int {
	if i := strings.IndexByte(letters, letter); i >= 0 {
		return u.Nodes[id].Args[i]
	}
	return id
}

// litOf is the literal of one of the chapter's words on the node at id; false,
// if that is an error.
func litOf(u api.Table, id int, letters, word string) (int, bool) {
	k := place(u, id, letters, word[0])
	if len(word) == 1 && u.Nodes[id].Op == api.OpTrue {
		return 2 * id, true
	}
	if len(word) == 1 {
		lit, e := atoms.Lit(u, k)
		return lit, e == api.OK
	}
	l := place(u, id, letters, word[2])
	n := of(api.OpEq, api.Bool, min(k, l), max(k, l))
	if word[1] == '-' {
		x, y, d, e := offset.Diff(u, k, l, 0)
		if e != api.OK || x == y {
			return 0, false
		}
		n = less(x, y, d)
	}
	at, ok := term.Find(u, n)
	return 2 * at, ok
}

// ofWords is Of.
func ofWords(u api.Table, id int) ([][]int, api.Errno) {
	if term.Check(u) != api.OK || !isPlace(u, id) {
		return nil, api.ErrArg
	}
	line, letters := told(u, id)
	if line == "" {
		return nil, api.OK
	}
	var l [][]int
	for c := range strings.SplitSeq(line, "; ") {
		var lits []int
		for word := range strings.FieldsSeq(c) {
			name := strings.TrimPrefix(word, "~")
			lit, ok := litOf(u, id, letters, name)
			if !ok {
				return nil, api.ErrArg
			}
			lits = append(lits, lit^(len(word)-len(name)))
		}
		l = append(l, row(lits...))
	}
	return l, api.OK
}

// allWords is All.
func allWords(u api.Table) (l [][]int, e api.Errno) {
	if term.Check(u) != api.OK {
		return nil, api.ErrArg
	}
	for id := range u.Nodes {
		c, e := ofWords(u, id)
		if e != api.OK {
			return nil, e
		}
		l = append(l, c...)
	}
	return l, api.OK
}

// A draw gives numbers that are alike each time.
type draw uint64

// below is a number from 0 to n - 1.
func (d *draw) below(n int) int {
	*d = *d*6364136223846793005 + 1442695040888963407
	return int(uint64(*d) >> 33 % uint64(n))
}

func (d *draw) from(l ...int) int { return l[d.below(len(l))] }

// number is one that may be.
func (d *draw) number() int {
	if d.below(4) > 0 {
		return d.below(5) - 2
	}
	return d.from(most, -most, most-1, 1-most, 1<<61, -1<<61)
}

// sorted is a place of that sort, if there is one.
func (d *draw) sorted(u api.Table, sort int) int {
	var l []int
	for id, n := range u.Nodes {
		if n.Sort == sort {
			l = append(l, id)
		}
	}
	if len(l) == 0 {
		return 0
	}
	return l[len(l)-1-min(d.below(len(l)), d.below(len(l)))]
}

// sorts are some that fit that kind, which is not OpApp.
func (d *draw) sorts(op int8) []int {
	one := d.from(api.Bool, api.Bool, api.Int, own, other)
	switch op {
	case api.OpTrue, api.OpNum:
		return nil
	case api.OpNot:
		return []int{api.Bool}
	case api.OpAdd:
		return []int{api.Int}
	case api.OpEq:
		return []int{one, one}
	case api.OpIte:
		return []int{api.Bool, one, one}
	case api.OpLe, api.OpLt, api.OpDiff:
		return []int{api.Int, api.Int}
	}
	return []int{api.Bool, api.Bool}
}

// sigma is a signature.
func sigma() api.Sig {
	return api.Sig{Sorts: []string{"S", "T"}, Funs: []api.Fun{
		{Name: "x", Res: api.Int},
		{Name: "y", Res: api.Int},
		{Name: "p", Res: api.Bool},
		{Name: "q", Res: api.Bool},
		{Name: "a", Res: own},
		{Name: "b", Res: own},
		{Name: "c", Res: other},
		{Name: "f", Len: 1, Args: args(api.Bool), Res: api.Int},
		{Name: "g", Len: 2, Args: args(own, api.Bool), Res: own},
		{Name: "h", Len: 1, Args: args(api.Int), Res: api.Bool},
		{Name: "k", Len: 3, Args: args(api.Bool, api.Int, api.Bool), Res: other},
	}}
}

// node is one that is well sorted, mostly of the kinds that have clauses.
func (d *draw) node(u api.Table) api.Node {
	n := api.Node{Op: int8(d.below(int(api.OpApp) + 1))}
	if d.below(2) == 0 {
		n.Op = int8(d.from(int(api.OpNot), int(api.OpAnd), int(api.OpOr), int(api.OpEq), int(api.OpIte), int(api.OpIte), int(api.OpApp)))
	}
	var sorts []int
	if n.Op == api.OpApp {
		n.Fun = d.below(len(sigma().Funs))
		f := sigma().Funs[n.Fun]
		sorts, n.Sort = f.Args[:f.Len], f.Res
	} else {
		sorts = d.sorts(n.Op)
		n.Sort, _ = typing.Op(n.Op, sorts)
	}
	n.Len = int8(len(sorts))
	for i, s := range sorts {
		n.Args[i] = d.sorted(u, s)
	}
	if n.Op == api.OpNum || n.Op == api.OpAdd || n.Op == api.OpDiff {
		n.N = d.number()
	}
	return n
}

// changed is n with something else in it.
func (d *draw) changed(u api.Table, n api.Node) api.Node {
	if n.Len == 0 || d.below(3) == 0 {
		n.Sort = d.below(own + 3)
	} else {
		n.Args[d.below(int(n.Len))] = d.below(len(u.Nodes))
	}
	return n
}

// named are nodes that the clauses of n name, which stands at id; seldom others
// in their stead.
func (d *draw) named(u api.Table, id int) (l []api.Node) {
	n := u.Nodes[id]
	for _, k := range n.Args[1:n.Len] {
		if n.Sort >= own {
			l = append(l, equal(k, id))
			if d.below(12) == 0 {
				l = append(l[:len(l)-1], equal(id, k))
			}
			continue
		}
		x, by, e := offset.Of(u, k)
		if e != api.OK {
			x, by = k, 0
		}
		l = append(l, less(id, x, by), less(x, id, -by))
	}
	if d.below(8) == 0 {
		at := d.below(len(l))
		l[at] = d.changed(u, l[at])
	}
	return l
}

// laid is u with most nodes that its clauses name.
func (d *draw) laid(u api.Table, seldom int) api.Table {
	for id, n := range u.Nodes {
		if n.Op != api.OpIte || n.Sort == api.Bool {
			continue
		}
		for _, m := range d.named(u, id) {
			if d.below(seldom) > 0 {
				u = putAll(u, m)
			}
		}
	}
	return u
}

// made is a table with about that many nodes, of which some, one of so many, do
// not fit.
func (d *draw) made(n, ill int) api.Table {
	u := table(app(0, api.Int), app(2, api.Bool), app(3, api.Bool), app(4, own), app(6, other))
	for range n {
		x := d.node(u)
		if ill > 0 && d.below(ill) == 0 {
			x = d.changed(u, x)
		}
		u = putAll(u, x)
	}
	return u
}

// broken is u with something in it by which it may seldom be.
func (d *draw) broken(u api.Table) api.Table {
	u = api.Table{Nodes: slices.Clone(u.Nodes)}
	n := &u.Nodes[d.below(len(u.Nodes))]
	switch d.below(6) {
	case 0:
		n.Args[d.below(api.MaxArgs)] = d.from(append(far, len(u.Nodes), len(u.Nodes)-1)...)
	case 1:
		n.Op = int8(d.below(256) - 128)
	case 2:
		n.Len = int8(d.below(256) - 128)
	case 3:
		n.Sort = d.from(far...)
	case 4:
		*n = u.Nodes[d.below(len(u.Nodes))]
	default:
		u.Nodes = u.Nodes[d.below(len(u.Nodes)):]
	}
	return u
}

// near are rows that are like those of l, and some that are.
func (d *draw) near(l [][]int) [][]int {
	o := [][]int{nil, {}, {0}, far}
	for _, c := range l {
		m := slices.Clone(c)
		m[d.below(len(m))] += d.below(3) - 1
		back := slices.Clone(c)
		slices.Reverse(back)
		o = append(o, c, m, back, c[1:], append(slices.Clone(c), d.below(90)))
	}
	return o
}

// hold holds all calls of u, of the places about it, against a second reading
// of the chapter.
func (d *draw) hold(t *testing.T, u api.Table) {
	t.Helper()
	ids := slices.Clone(far)
	for id := range len(u.Nodes) + 2 {
		ids = append(ids, id)
	}
	for _, id := range ids {
		want, we := ofWords(u, id)
		l, e := shape.Of(u, id)
		if !sameRows(l, want) || e != we || shape.Count(u, id) != len(want) {
			t.Fatal("Of", u, id, l, e, "not", want, we)
		}
		for _, c := range d.near(want) {
			is := slices.ContainsFunc(want, func(o []int) bool { return slices.Equal(o, c) })
			if shape.Is(u, id, c) != is {
				t.Fatal("Is", u, id, c, !is)
			}
		}
	}
	want, we := allWords(u)
	if l, e := shape.All(u); !sameRows(l, want) || e != we {
		t.Fatal("All", u, l, e, "not", want, we)
	}
}

// P14.1, P14.2: made tables held against a second reading of the chapter.
func TestMade(t *testing.T) {
	d, ofs, alls := draw(1), map[string]int{}, map[api.Errno]int{}
	for range 4000 {
		u := d.laid(d.made(2+d.below(18), []int{0, 3, 8}[d.below(3)]), d.from(8, 8, math.MaxInt))
		if d.below(8) == 0 {
			u = d.broken(u)
		}
		d.hold(t, u)
		if term.Check(u) != api.OK {
			alls[-1]++
			continue
		}
		for id := range u.Nodes {
			line, _ := told(u, id)
			_, e := shape.Of(u, id)
			ofs[line+e.Error()]++
		}
		_, e := shape.All(u)
		alls[e]++
	}
	for id := range itePQR {
		line, _ := told(base(), id)
		if n := ofs[line+api.OK.Error()]; n < 500 {
			t.Error("too few", line, n)
		}
	}
	for _, id := range []int{andPQ, orPQ, eqPQ, itePQR, iteXY, iteAB} {
		line, _ := told(base(), id)
		if n, m := ofs[line+api.OK.Error()], ofs[line+api.ErrArg.Error()]; n < 500 || m < 50 {
			t.Error("too few", line, n, m)
		}
	}
	if alls[api.OK] < 1000 || alls[api.ErrArg] < 1000 || alls[-1] < 300 {
		t.Error("too few", alls)
	}
}

// R1, R2: whatever they are given, all calls end, and tell what the words say.
func TestWhatever(t *testing.T) {
	d := draw(2)
	for _, u := range append(strange(), api.Table{Nodes: make([]api.Node, 9)}, term.New(), base(), upon(base(), and(x, a)), upon(base(), ite(last, x, x, x))) {
		d.hold(t, u)
		for _, id := range far {
			for _, c := range [][]int{nil, {}, far, {0}, {id}, {id, id}, row(neg(p), pos(isA))} {
				if shape.Is(u, id, c) {
					t.Fatal(u, id, c)
				}
				if id := d.below(end); shape.Is(u, id, far) || shape.Is(u, id, nil) {
					t.Fatal(u, id)
				}
			}
		}
	}
}

// value is one of that sort.
func (d *draw) value(w api.World, sort int) int {
	switch sort {
	case api.Bool:
		return d.below(2)
	case api.Int:
		return d.number()
	}
	return d.below(w.Sizes[sort-own])
}

// world is one that may be of sigma.
func (d *draw) world() api.World {
	w := api.World{Sizes: []int{1 + d.below(3), 1 + d.below(3)}}
	for _, f := range sigma().Funs {
		x := api.FunVal{Else: d.value(w, f.Res)}
		for range d.below(4) {
			r := api.Row{Val: d.value(w, f.Res)}
			for i := range f.Len {
				r.Args[i] = d.value(w, f.Args[i])
			}
			if !slices.ContainsFunc(x.Rows, func(s api.Row) bool { return s.Args == r.Args }) {
				x.Rows = append(x.Rows, r)
			}
		}
		w.Funs = append(w.Funs, x)
	}
	return w
}

// holds tells whether a literal of c is true, the nodes having those values.
func holds(vals []int, c []int) bool {
	return slices.ContainsFunc(c, func(lit int) bool { return vals[lit/2] == 1-lit%2 })
}

// worldly holds u's clauses against the world w: how many hold there, and how
// many connectives' literals are turned about, each of which breaks one.
func worldly(t *testing.T, w api.World, u api.Table) (clauses, turned int) {
	t.Helper()
	vals, over, e := eval.Values(sigma(), w, u)
	if e != api.OK {
		t.Fatal(u, w, e)
	}
	if slices.Contains(over, true) {
		return 0, 0
	}
	for id, n := range u.Nodes {
		l, e := shape.Of(u, id)
		if e != api.OK {
			continue
		}
		for _, c := range l {
			if !holds(vals, c) {
				t.Fatal(u, w, id, c)
			}
			clauses++
		}
		if n.Sort != api.Bool || len(l) == 0 {
			continue
		}
		vals[id] = 1 - vals[id]
		if !slices.ContainsFunc(l, func(c []int) bool { return !holds(vals, c) }) {
			t.Fatal("turned about", u, w, id, l)
		}
		vals[id] = 1 - vals[id]
		turned++
	}
	return clauses, turned
}

// P14.3: in each world in which nothing overflows each clause holds; a
// connective's literal turned about breaks one of its.
func TestInWorlds(t *testing.T) {
	d, clauses, turned := draw(3), 0, 0
	for range 4000 {
		u := d.laid(d.made(2+d.below(14), 0), 8)
		if typing.Table(sigma(), u) != api.OK {
			continue
		}
		for range 3 {
			w := d.world()
			if !value.May(sigma(), w) {
				t.Fatal(w)
			}
			c, k := worldly(t, w, u)
			clauses, turned = clauses+c, turned+k
		}
	}
	if clauses < 20000 || turned < 5000 {
		t.Error("too few", clauses, turned)
	}
}

// P14.2, P14.3: so it is with what core makes, of which All is never an error.
func TestCoreInWorlds(t *testing.T) {
	d, clauses, turned, rows := draw(4), 0, 0, 0
	for range 2000 {
		u := d.made(2+d.below(18), 0)
		roots := make([]int, len(u.Nodes))
		for id := range roots {
			roots[id] = id
		}
		u, _, e := core.Of(u, roots, math.MaxInt)
		if e != api.OK {
			continue
		}
		l, e := shape.All(u)
		want, _ := allWords(u)
		if e != api.OK || !sameRows(l, want) {
			t.Fatal(u, l, e)
		}
		rows += len(l)
		for range 3 {
			c, k := worldly(t, d.world(), u)
			if c != 0 && c != len(l) {
				t.Fatal(u, c, l)
			}
			clauses, turned = clauses+c, turned+k
		}
	}
	if rows < 10000 || clauses < 10000 || turned < 4000 {
		t.Error("too few", rows, clauses, turned)
	}
}

// P14.3: the clauses of a connective, its Args' values given, leave it one value,
// which is the one that it has: all values of all Args.
func TestNoChoice(t *testing.T) {
	u := base()
	for _, id := range []int{api.True, andPQ, orPQ, eqPQ, itePQR} {
		l, _ := shape.Of(u, id)
		for bits := range 8 {
			vals := make([]int, end)
			vals[api.True] = 1
			vals[p], vals[q], vals[r] = bits&1, bits>>1&1, bits>>2
			want := map[int]int{
				api.True: 1,
				andPQ:    vals[p] * vals[q],
				orPQ:     max(vals[p], vals[q]),
				eqPQ:     1 - (vals[p]+vals[q])%2,
				itePQR:   []int{vals[r], vals[q]}[vals[p]],
			}[id]
			for v := range 2 {
				vals[id] = v
				broken := slices.ContainsFunc(l, func(c []int) bool { return !holds(vals, c) })
				if broken == (v == want) {
					t.Error(id, bits, v)
				}
			}
		}
	}
}
