package atoms_test

import (
	"math"
	"slices"
	"testing"

	"gantry/api"
	"gantry/atoms"
	"gantry/eval"
	"gantry/term"
	"gantry/typing"
	"gantry/value"
)

// isPlace tells whether there is such a node.
func isPlace(u api.Table, id int) bool { return 0 <= id && id < len(u.Nodes) }

// kindWords is Kind, by the chapter's words one behind the other.
func kindWords(u api.Table, id int) int8 {
	if term.Check(u) != api.OK || !isPlace(u, id) || u.Nodes[id].Sort != api.Bool {
		return atoms.KnNone
	}
	n := u.Nodes[id]
	sort := func(i int) int { return u.Nodes[n.Args[i]].Sort }
	switch {
	case n.Op == api.OpTrue:
		return atoms.KnTrue
	case n.Op == api.OpNot:
		return atoms.KnNot
	case n.Op == api.OpAnd, n.Op == api.OpOr, n.Op == api.OpXor, n.Op == api.OpImp,
		n.Op == api.OpEq && sort(0) == api.Bool && sort(1) == api.Bool,
		n.Op == api.OpIte && sort(0) == api.Bool && sort(1) == api.Bool && sort(2) == api.Bool:
		return atoms.KnForm
	case n.Op == api.OpEq && sort(0) >= own && sort(0) == sort(1):
		return atoms.KnEqual
	case n.Op == api.OpEq && sort(0) == api.Int && sort(1) == api.Int:
		return atoms.KnInt
	case n.Op == api.OpDiff:
		return atoms.KnDiff
	case n.Op == api.OpLe, n.Op == api.OpLt:
		return atoms.KnOrder
	case n.Op == api.OpApp:
		return atoms.KnApp
	}
	return atoms.KnNone
}

// comesTo is what the node at id comes to, and behind how many OpNots.
func comesTo(u api.Table, id int) (int, int) {
	if u.Nodes[id].Op != api.OpNot {
		return id, 0
	}
	at, n := comesTo(u, u.Nodes[id].Args[0])
	return at, n + 1
}

// litWords is Lit.
func litWords(u api.Table, id int) (int, api.Errno) {
	if term.Check(u) != api.OK || !isPlace(u, id) {
		return 0, api.ErrArg
	}
	at, n := comesTo(u, id)
	if u.Nodes[id].Sort != api.Bool || u.Nodes[at].Sort != api.Bool {
		return 0, api.ErrSort
	}
	return 2*at + n%2, api.OK
}

// boolsWords is Bools.
func boolsWords(u api.Table) (l []int) {
	for id, n := range u.Nodes {
		if term.Check(u) == api.OK && n.Sort == api.Bool && n.Op != api.OpNot {
			l = append(l, id)
		}
	}
	return l
}

// mayWords is May.
func mayWords(u api.Table, l []int) bool {
	if term.Check(u) != api.OK {
		return false
	}
	all := both(boolsWords(u)...)
	for _, lit := range l {
		if !slices.Contains(all, lit) {
			return false
		}
	}
	return true
}

// isArgument tells whether the node at id is an argument of an OpApp, or its
// OpNot is, or that one's, and so on.
func isArgument(u api.Table, id int) bool {
	for at, n := range u.Nodes {
		is := slices.Contains(n.Args[:n.Len], id)
		if is && (n.Op == api.OpApp || n.Op == api.OpNot && isArgument(u, at)) {
			return true
		}
	}
	return false
}

// toldWords are Euf and Idl.
func toldWords(u api.Table, l []int) (euf, idl []int) {
	if !mayWords(u, l) {
		return nil, nil
	}
	for _, lit := range l {
		id := lit / 2
		k := kindWords(u, id)
		if k == atoms.KnEqual || k == atoms.KnInt || k == atoms.KnApp || isArgument(u, id) {
			euf = append(euf, lit)
		}
		if k == atoms.KnDiff {
			idl = append(idl, lit)
		}
	}
	return euf, idl
}

// hold holds all calls of u, of the places about it, and of some literals,
// against a second reading of the chapter.
func hold(t *testing.T, u api.Table, l []int) {
	t.Helper()
	ids := slices.Clone(far)
	for id := range len(u.Nodes) + 3 {
		ids = append(ids, id)
	}
	for _, id := range ids {
		if k := atoms.Kind(u, id); k != kindWords(u, id) {
			t.Fatal("Kind", u, id, k)
		}
		want, we := litWords(u, id)
		if lit, e := atoms.Lit(u, id); lit != want || e != we {
			t.Fatal("Lit", u, id, lit, e, "not", want, we)
		}
	}
	if o := atoms.Bools(u); !slices.Equal(o, boolsWords(u)) {
		t.Fatal("Bools", u, o)
	}
	if may := atoms.May(u, l); may != mayWords(u, l) {
		t.Fatal("May", u, l, may)
	}
	euf, idl := toldWords(u, l)
	if o := atoms.Euf(u, l); !slices.Equal(o, euf) {
		t.Fatal("Euf", u, l, o, "not", euf)
	}
	if o := atoms.Idl(u, l); !slices.Equal(o, idl) {
		t.Fatal("Idl", u, l, o, "not", idl)
	}
}

// A draw gives numbers that are alike each time.
type draw uint64

// below is a number from 0 to n - 1.
func (d *draw) below(n int) int {
	*d = *d*6364136223846793005 + 1442695040888963407
	return int(uint64(*d) >> 33 % uint64(n))
}

func (d *draw) from(l ...int) int { return l[d.below(len(l))] }

// sorted is a place of that sort, if there is one.
func (d *draw) sorted(u api.Table, sort int) int {
	var l []int
	for id, n := range u.Nodes {
		if n.Sort == sort {
			l = append(l, id)
		}
	}
	if len(l) == 0 {
		return 0
	}
	return l[len(l)-1-min(d.below(len(l)), d.below(len(l)))]
}

// sorts are some that fit that kind, which is not OpApp.
func (d *draw) sorts(op int8) []int {
	one := d.from(api.Bool, api.Bool, api.Int, own, other)
	switch op {
	case api.OpTrue, api.OpNum:
		return nil
	case api.OpNot:
		return []int{api.Bool}
	case api.OpAdd:
		return []int{api.Int}
	case api.OpEq:
		return []int{one, one}
	case api.OpIte:
		return []int{api.Bool, one, one}
	case api.OpLe, api.OpLt, api.OpDiff:
		return []int{api.Int, api.Int}
	}
	return []int{api.Bool, api.Bool}
}

// sigma is a signature.
func sigma() api.Sig {
	return api.Sig{Sorts: []string{"S", "T"}, Funs: []api.Fun{
		{Name: "x", Res: api.Int},
		{Name: "y", Res: api.Int},
		{Name: "p", Res: api.Bool},
		{Name: "q", Res: api.Bool},
		{Name: "a", Res: own},
		{Name: "b", Res: own},
		{Name: "c", Res: other},
		{Name: "f", Len: 1, Args: args(api.Bool), Res: api.Int},
		{Name: "g", Len: 2, Args: args(own, api.Bool), Res: own},
		{Name: "h", Len: 1, Args: args(api.Bool), Res: api.Bool},
		{Name: "k", Len: 3, Args: args(api.Bool, api.Int, api.Bool), Res: other},
	}}
}

// node is one that is mostly well sorted.
func (d *draw) node(u api.Table) api.Node {
	op := int8(d.below(int(api.OpApp) + 4))
	if d.below(3) == 0 {
		op = int8(d.from(int(api.OpNot), int(api.OpNot), int(api.OpEq), int(api.OpDiff)))
	}
	n := api.Node{Op: min(op, api.OpApp)}
	var sorts []int
	if n.Op == api.OpApp {
		n.Fun = d.below(len(sigma().Funs))
		f := sigma().Funs[n.Fun]
		sorts, n.Sort = f.Args[:f.Len], f.Res
	} else {
		sorts = d.sorts(n.Op)
		n.Sort, _ = typing.Op(n.Op, sorts)
	}
	n.Len = int8(len(sorts))
	for i, s := range sorts {
		n.Args[i] = d.sorted(u, s)
	}
	if n.Op == api.OpNum || n.Op == api.OpAdd || n.Op == api.OpDiff {
		n.N = d.below(5) - 2
	}
	return n
}

// changed is n with something else in it.
func (d *draw) changed(u api.Table, n api.Node) api.Node {
	if n.Len == 0 || d.below(3) == 0 {
		n.Sort = d.below(own + 3)
	} else {
		n.Args[d.below(int(n.Len))] = d.below(len(u.Nodes))
	}
	return n
}

// table is one with about that many nodes, of which some, one of so many, do not
// fit.
func (d *draw) table(n, ill int) api.Table {
	u := table(app(0, api.Int), app(2, api.Bool), app(4, own), app(6, other))
	for range n {
		x := d.node(u)
		if ill > 0 && d.below(ill) == 0 {
			x = d.changed(u, x)
		}
		if o, _, e := term.Put(u, x, math.MaxInt); e == api.OK {
			u = o
		}
	}
	return u
}

// broken is u with something in it by which it may seldom be.
func (d *draw) broken(u api.Table) api.Table {
	u = api.Table{Nodes: slices.Clone(u.Nodes)}
	n := &u.Nodes[d.below(len(u.Nodes))]
	switch d.below(6) {
	case 0:
		n.Args[d.below(api.MaxArgs)] = d.from(append(far, len(u.Nodes), len(u.Nodes)-1)...)
	case 1:
		n.Op = int8(d.below(256) - 128)
	case 2:
		n.Len = int8(d.below(256) - 128)
	case 3:
		n.Sort = d.from(far...)
	case 4:
		*n = u.Nodes[d.below(len(u.Nodes))]
	default:
		u.Nodes = u.Nodes[d.below(len(u.Nodes)):]
	}
	return u
}

// literals are some of u's, seldom others.
func (d *draw) literals(u api.Table) (l []int) {
	all := both(atoms.Bools(u)...)
	for range d.below(12) {
		if len(all) > 0 && d.below(60) > 0 {
			l = append(l, d.from(all...))
		} else {
			l = append(l, d.from(append(far, 2*len(u.Nodes), d.below(2*len(u.Nodes)+1))...))
		}
	}
	return l
}

// P13.1, P13.2, P13.3: made tables held against a second reading of the chapter.
func TestMade(t *testing.T) {
	d, kinds, may, euf, idl, none := draw(1), [atoms.KnApp + 1]int{}, 0, 0, 0, 0
	for range 6000 {
		u := d.table(4+d.below(24), []int{0, 0, 5}[d.below(3)])
		if d.below(4) == 0 {
			u = d.broken(u)
		}
		l := d.literals(u)
		hold(t, u, l)
		for id := range u.Nodes {
			kinds[atoms.Kind(u, id)]++
		}
		switch {
		case term.Check(u) != api.OK:
			none++
		case atoms.May(u, l):
			may++
			euf += len(atoms.Euf(u, l))
			idl += len(atoms.Idl(u, l))
		}
	}
	if slices.Min(kinds[:]) < 1000 || may < 2000 || may > 5000 || euf < 5000 || idl < 1000 || none < 500 {
		t.Error("too few", kinds, may, euf, idl, none)
	}
}

// R1: whatever they are given, all calls end, and tell what the words say.
func TestWhatever(t *testing.T) {
	for _, u := range append(strange(), api.Table{Nodes: make([]api.Node, 9)}, term.New(), base(), upon(base(), app(11, own, notAnd, three))) {
		for _, l := range [][]int{nil, {}, {0}, {1, 0, 1}, {2 * p, 2*q + 1}, both(bools()...), far} {
			hold(t, u, l)
		}
	}
}

// P13.4: the literals of a node and of its OpNot are each other's Neg; what is
// told is of the literals, in their order: of two rows it is what is told of
// each.
func TestFollows(t *testing.T) {
	d, seen := draw(2), 0
	for range 2000 {
		u := d.table(4+d.below(24), []int{0, 5}[d.below(2)])
		for id, n := range u.Nodes {
			if n.Op != api.OpNot {
				continue
			}
			l, e := atoms.Lit(u, id)
			in, f := atoms.Lit(u, n.Args[0])
			if e == api.OK && f == api.OK {
				if l != atoms.Neg(in) || in != atoms.Neg(l) || atoms.Node(l) != atoms.Node(in) || !slices.Contains(atoms.Bools(u), atoms.Node(l)) {
					t.Fatal(u, id, l, in)
				}
				seen++
			}
		}
		k, l := d.literals(u), d.literals(u)
		if !atoms.May(u, k) || !atoms.May(u, l) {
			continue
		}
		for _, told := range []func(api.Table, []int) []int{atoms.Euf, atoms.Idl} {
			all := told(u, slices.Concat(k, l))
			if !slices.Equal(all, slices.Concat(told(u, k), told(u, l))) || !atoms.May(u, all) || !slices.Equal(told(u, all), all) {
				t.Fatal(u, k, l, all)
			}
		}
	}
	if seen < 2000 {
		t.Error("too few", seen)
	}
}

// value is one of that sort.
func (d *draw) value(w api.World, sort int) int {
	switch sort {
	case api.Bool:
		return d.below(2)
	case api.Int:
		return d.below(5) - 2
	}
	return d.below(w.Sizes[sort-own])
}

// world is one that may be of sigma.
func (d *draw) world() api.World {
	w := api.World{Sizes: []int{1 + d.below(3), 1 + d.below(3)}}
	for _, f := range sigma().Funs {
		x := api.FunVal{Else: d.value(w, f.Res)}
		for range d.below(4) {
			r := api.Row{Val: d.value(w, f.Res)}
			for i := range f.Len {
				r.Args[i] = d.value(w, f.Args[i])
			}
			if !slices.ContainsFunc(x.Rows, func(s api.Row) bool { return s.Args == r.Args }) {
				x.Rows = append(x.Rows, r)
			}
		}
		w.Funs = append(w.Funs, x)
	}
	return w
}

// P13.2: in each world a Bool node is what its literal says of the node that it
// comes to; each well sorted Bool has one.
func TestInWorlds(t *testing.T) {
	d, seen := draw(3), [2]int{}
	for range 1000 {
		u, w := d.table(4+d.below(24), 0), d.world()
		if !value.May(sigma(), w) {
			t.Fatal(w)
		}
		vals, over, e := eval.Values(sigma(), w, u)
		if e != api.OK || slices.Contains(over, true) {
			t.Fatal(u, w, over, e)
		}
		for id, n := range u.Nodes {
			l, e := atoms.Lit(u, id)
			if is := n.Sort == api.Bool; is != (e == api.OK) || is == (e == api.ErrSort) {
				t.Fatal(u, id, l, e)
			}
			if e != api.OK {
				continue
			}
			if neg := atoms.Is(l); (vals[id] == vals[atoms.Node(l)]) == neg {
				t.Fatal(u, w, id, l)
			}
			seen[l%2]++
		}
	}
	if seen[0] < 1000 || seen[1] < 1000 {
		t.Error("too few", seen)
	}
}
