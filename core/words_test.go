package core_test

import (
	"math"
	"slices"
	"testing"

	"gantry/api"
	"gantry/core"
	"gantry/eval"
	"gantry/offset"
	"gantry/term"
	"gantry/typing"
	"gantry/value"
)

// A reading puts what the chapter's words tell, one thing behind the other, by
// the calls that they name.
type reading struct {
	t    api.Table
	room int
	ill  bool // the sorts of a node that was to be put do not fit
	e    api.Errno
}

func (r *reading) keep(o api.Table, at int, e api.Errno) int {
	switch {
	case r.e != api.OK:
		return 0
	case e != api.OK:
		r.e = e
		return 0
	}
	r.t = o
	return at
}

// fit looks at the sorts of a node of that kind.
func (r *reading) fit(op int8, l ...int) {
	var sorts []int
	for _, id := range l {
		sorts = append(sorts, r.t.Nodes[id].Sort)
	}
	if _, e := typing.Op(op, sorts); e != api.OK {
		r.ill = true
	}
}

func (r *reading) node(n api.Node) int { return r.keep(term.Put(r.t, n, r.room)) }

func (r *reading) kind(op int8, sort int, l ...int) int {
	r.fit(op, l...)
	return r.node(of(op, sort, l...))
}

// base is the base of an Int.
func (r *reading) base(id int) int {
	switch n := r.t.Nodes[id]; n.Op {
	case api.OpNum:
		return api.Zero
	case api.OpAdd:
		return r.base(n.Args[0])
	}
	return id
}

func (r *reading) diff(k, l, n int) int {
	if k, l := r.base(k), r.base(l); k != l {
		r.fit(api.OpDiff, k, l)
	}
	o, at, _, e := offset.Le(r.t, k, l, n, r.room)
	return r.keep(o, at, e)
}

func (r *reading) not(id int) int {
	if n := r.t.Nodes[id]; n.Op == api.OpNot {
		return n.Args[0]
	}
	return r.kind(api.OpNot, api.Bool, id)
}

func (r *reading) equal(k, l int) int {
	switch r.t.Nodes[k].Sort {
	case api.Bool:
		return r.kind(api.OpEq, api.Bool, k, l)
	case api.Int:
		one := r.diff(k, l, 0)
		two := r.diff(l, k, 0)
		return r.kind(api.OpAnd, api.Bool, one, two)
	}
	if k == l {
		return api.True
	}
	return r.kind(api.OpEq, api.Bool, min(k, l), max(k, l))
}

func (r *reading) ite(i, k, l int) int {
	if k == l {
		return k
	}
	sort := r.t.Nodes[k].Sort
	it := r.kind(api.OpIte, sort, i, k, l)
	switch {
	case r.e != api.OK:
	case sort == api.Int:
		r.diff(it, k, 0)
		r.diff(k, it, 0)
		r.diff(it, l, 0)
		r.diff(l, it, 0)
	case sort >= own:
		r.kind(api.OpEq, api.Bool, min(it, k), max(it, k))
		r.kind(api.OpEq, api.Bool, min(it, l), max(it, l))
	}
	return it
}

// image is what comes of n, its Args being images.
func (r *reading) image(n api.Node) int {
	i, k, l := n.Args[0], n.Args[1], n.Args[2]
	switch n.Op {
	case api.OpTrue:
		return api.True
	case api.OpNum:
		return r.keep(offset.Put(r.t, api.Zero, n.N, r.room))
	case api.OpAdd:
		return r.keep(offset.Add(r.t, i, n.N, r.room))
	case api.OpNot:
		return r.not(i)
	case api.OpAnd, api.OpOr:
		return r.kind(n.Op, api.Bool, i, k)
	case api.OpImp:
		i = r.not(i)
		return r.kind(api.OpOr, api.Bool, i, k)
	case api.OpXor:
		return r.not(r.equal(i, k))
	case api.OpEq:
		return r.equal(i, k)
	case api.OpIte:
		return r.ite(i, k, l)
	case api.OpLe:
		return r.diff(i, k, 0)
	case api.OpLt:
		return r.diff(i, k, -1)
	case api.OpDiff:
		return r.diff(i, k, n.N)
	}
	return r.node(n)
}

// at is the place of the image of u's node at id; Args' ahead.
func (r *reading) at(u api.Table, id int, seen map[int]int) int {
	if at, ok := seen[id]; ok {
		return at
	}
	n := u.Nodes[id]
	for i := range int(n.Len) {
		n.Args[i] = r.at(u, n.Args[i], seen)
	}
	if r.e != api.OK {
		return 0
	}
	seen[id] = r.image(n)
	return seen[id]
}

// ofWords is Of.
func ofWords(u api.Table, roots []int, room int) (answer, []int) {
	if term.Check(u) != api.OK || !places(u, roots...) {
		return answer{e: api.ErrArg}, nil
	}
	for _, n := range u.Nodes {
		var sorts []int
		for _, id := range n.Args[:n.Len] {
			sorts = append(sorts, u.Nodes[id].Sort)
		}
		if s, e := typing.Op(n.Op, sorts); n.Op != api.OpApp && (e != api.OK || s != n.Sort) {
			return answer{e: api.ErrSort}, nil
		}
	}
	r, seen := &reading{t: term.New(), room: room}, map[int]int{}
	var l []int
	for _, id := range roots {
		l = append(l, r.at(u, id, seen))
	}
	if r.e != api.OK {
		return answer{e: r.e}, nil
	}
	return answer{t: r.t.Nodes}, l
}

func places(u api.Table, l ...int) bool {
	for _, id := range l {
		if id < 0 || id >= len(u.Nodes) {
			return false
		}
	}
	return true
}

// isWords is Is.
func isWords(u api.Table) bool {
	if term.Check(u) != api.OK || !offset.Ordered(u) {
		return false
	}
	sort := func(id int) int { return u.Nodes[id].Sort }
	base := func(id int) bool {
		b, _, e := offset.Of(u, id)
		return b == id && e == api.OK
	}
	for _, n := range u.Nodes {
		i, k := n.Args[0], n.Args[1]
		switch {
		case slices.Contains([]int8{api.OpXor, api.OpImp, api.OpLe, api.OpLt}, n.Op),
			n.Op == api.OpEq && sort(i) == api.Int && sort(k) == api.Int,
			n.Op == api.OpEq && i == k && sort(i) != api.Bool,
			n.Op == api.OpNot && u.Nodes[i].Op == api.OpNot,
			n.Op == api.OpDiff && (i == k || !base(i) || !base(k)):
			return false
		}
	}
	return true
}

// words is what comes of what do puts upon u, of those places.
func words(u api.Table, room int, do func(r *reading) int, l ...int) answer {
	if !isWords(u) || !places(u, l...) {
		return answer{e: api.ErrArg}
	}
	free := &reading{t: u, room: math.MaxInt}
	do(free)
	r := &reading{t: u, room: room}
	at := do(r)
	switch {
	case free.ill || r.ill:
		return answer{e: api.ErrSort}
	case r.e != api.OK:
		return answer{e: r.e}
	}
	return answer{t: r.t.Nodes, at: at}
}

func notWords(u api.Table, id, room int) answer {
	return words(u, room, func(r *reading) int { return r.not(id) }, id)
}

func equalWords(u api.Table, k, l, room int) answer {
	return words(u, room, func(r *reading) int {
		r.fit(api.OpEq, k, l)
		return r.equal(k, l)
	}, k, l)
}

func iteWords(u api.Table, i, k, l, room int) answer {
	return words(u, room, func(r *reading) int {
		r.fit(api.OpIte, i, k, l)
		return r.ite(i, k, l)
	}, i, k, l)
}

// A draw gives numbers that are alike each time.
type draw uint64

// below is a number from 0 to n - 1.
func (d *draw) below(n int) int {
	*d = *d*6364136223846793005 + 1442695040888963407
	return int(uint64(*d) >> 33 % uint64(n))
}

func (d *draw) from(l ...int) int { return l[d.below(len(l))] }

// number is one that may be.
func (d *draw) number() int {
	if d.below(3) > 0 {
		return d.below(5) - 2
	}
	return d.from(most, -most, most-1, 1-most, most-2, 1<<61, -1<<61, 1<<61+1)
}

// place is a place of u, rather a great one, seldom none.
func (d *draw) place(u api.Table) int {
	if d.below(40) == 0 {
		return d.from(append([]int{len(u.Nodes)}, far...)...)
	}
	return len(u.Nodes) - 1 - min(d.below(len(u.Nodes)), d.below(len(u.Nodes)))
}

// sorted is a place of that sort, if there is one.
func (d *draw) sorted(u api.Table, sort int) int {
	var l []int
	for id, n := range u.Nodes {
		if n.Sort == sort {
			l = append(l, id)
		}
	}
	if len(l) == 0 {
		return 0
	}
	return l[len(l)-1-min(d.below(len(l)), d.below(len(l)))]
}

// sorts are some that fit that kind, which is not OpApp.
func (d *draw) sorts(op int8) []int {
	one := d.from(api.Bool, api.Int, own, own, other)
	switch op {
	case api.OpTrue, api.OpNum:
		return nil
	case api.OpNot:
		return []int{api.Bool}
	case api.OpAdd:
		return []int{api.Int}
	case api.OpEq:
		return []int{one, one}
	case api.OpIte:
		return []int{api.Bool, one, one}
	case api.OpLe, api.OpLt, api.OpDiff:
		return []int{api.Int, api.Int}
	}
	return []int{api.Bool, api.Bool}
}

// sigma is a signature.
func sigma() api.Sig {
	return api.Sig{Sorts: []string{"S", "T"}, Funs: []api.Fun{
		{Name: "x", Res: api.Int},
		{Name: "y", Res: api.Int},
		{Name: "p", Res: api.Bool},
		{Name: "q", Res: api.Bool},
		{Name: "a", Res: own},
		{Name: "b", Res: own},
		{Name: "c", Res: other},
		{Name: "d", Res: other},
		{Name: "f", Len: 1, Args: args(api.Int), Res: api.Int},
		{Name: "g", Len: 2, Args: args(own, api.Bool), Res: own},
		{Name: "h", Len: 2, Args: args(api.Int, other), Res: api.Bool},
		{Name: "k", Len: 3, Args: args(api.Bool, api.Int, own), Res: other},
	}}
}

// node is one that may mostly be put behind u, and is mostly well sorted.
func (d *draw) node(u api.Table) api.Node {
	op := int8(d.below(int(api.OpApp) + 5))
	if d.below(3) == 0 {
		op = int8(d.from(int(api.OpAdd), int(api.OpAdd), int(api.OpNum), int(api.OpLt), int(api.OpDiff)))
	}
	n := api.Node{Op: min(op, api.OpApp)}
	var sorts []int
	if n.Op == api.OpApp {
		n.Fun = d.below(len(sigma().Funs))
		f := sigma().Funs[n.Fun]
		sorts, n.Sort = f.Args[:f.Len], f.Res
	} else {
		sorts = d.sorts(n.Op)
		n.Sort, _ = typing.Op(n.Op, sorts)
	}
	n.Len = int8(len(sorts))
	for i, s := range sorts {
		n.Args[i] = d.sorted(u, s)
	}
	if n.Op == api.OpNum || n.Op == api.OpAdd || n.Op == api.OpDiff {
		n.N = d.number()
	}
	return n
}

// changed is n with something else in it.
func (d *draw) changed(u api.Table, n api.Node) api.Node {
	if n.Len == 0 || d.below(3) == 0 {
		n.Sort = d.below(own + 3)
	} else {
		n.Args[d.below(int(n.Len))] = d.place(u)
	}
	return n
}

// table is u with about that many nodes more, of which some, one of so many, do
// not fit.
func (d *draw) table(u api.Table, n, ill int) api.Table {
	for range n {
		x := d.node(u)
		if ill > 0 && d.below(ill) == 0 {
			x = d.changed(u, x)
		}
		if o, _, e := term.Put(u, x, math.MaxInt); e == api.OK {
			u = o
		}
	}
	return u
}

// grounds are a table of all functions without arguments.
func grounds() api.Table {
	u := term.New()
	for i, f := range sigma().Funs {
		if f.Len == 0 {
			u.Nodes = append(u.Nodes, app(i, f.Res))
		}
	}
	return u
}

// roots are some places of u.
func (d *draw) roots(u api.Table) (l []int) {
	for range d.below(5) {
		l = append(l, d.place(u))
	}
	return l
}

// P12.2: made tables held against a second reading of the chapter.
func TestOfWords(t *testing.T) {
	d, seen, kinds := draw(1), map[api.Errno]int{}, [api.OpApp + 1]int{}
	for range 4000 {
		u := d.table(grounds(), 4+d.below(30), []int{0, 0, 100}[d.below(3)])
		roots := d.roots(u)
		full, _ := ofWords(u, roots, math.MaxInt)
		for _, room := range []int{math.MaxInt, len(full.t), len(full.t) - 1, d.below(20)} {
			want, images := ofWords(u, roots, room)
			o, l := ofOf(u, roots, room)
			if !o.same(want) || !slices.Equal(l, images) {
				t.Fatal(u, roots, room, o, l, "not", want, images)
			}
			seen[o.e]++
		}
		for _, id := range term.Reach(u, roots) {
			kinds[u.Nodes[id].Op]++
		}
	}
	for _, e := range []api.Errno{api.OK, api.ErrArg, api.ErrSort, api.ErrOver, api.ErrMany} {
		if seen[e] < 300 {
			t.Error("too few", e, seen)
		}
	}
	if slices.Min(kinds[:]) < 100 {
		t.Error("too few", kinds)
	}
}

// coreTable is mostly core, and mostly well sorted.
func (d *draw) coreTable(t *testing.T) api.Table {
	t.Helper()
	u := d.table(grounds(), 4+d.below(16), 0)
	all := make([]int, len(u.Nodes))
	for id := range all {
		all[id] = id
	}
	c, _, e := core.Of(u, all, math.MaxInt)
	if e != api.OK {
		c = grounds()
	}
	for range d.below(4) {
		n := d.node(c)
		if d.below(2) == 0 {
			n = d.changed(c, n)
		}
		if o, _, e := term.Put(c, n, math.MaxInt); e == api.OK && (isWords(o) || d.below(4) == 0) {
			c = o
		}
	}
	return c
}

// P12.1: made tables held against a second reading of the chapter.
func TestCoreWords(t *testing.T) {
	d, is := draw(2), map[bool]int{}
	seen := map[string]int{}
	hold := func(what string, u api.Table, got, want answer, asked ...int) {
		t.Helper()
		if !got.same(want) {
			t.Fatal(what, asked, u, got, "not", want)
		}
		seen[what+got.e.Error()]++
	}
	for range 4000 {
		u := d.coreTable(t)
		if core.Is(u) != isWords(u) {
			t.Fatal("Is", u)
		}
		is[core.Is(u)]++
		for range 6 {
			i, k, l := d.place(u), d.place(u), d.place(u)
			if places(u, i, k) && d.below(4) > 0 {
				i, l = d.sorted(u, api.Bool), d.sorted(u, u.Nodes[k].Sort)
			}
			if d.below(3) == 0 {
				k, l = d.sorted(u, api.Int), d.sorted(u, api.Int)
			}
			room := d.from(0, len(u.Nodes), len(u.Nodes)+1, len(u.Nodes)+2, len(u.Nodes)+4, math.MaxInt, math.MaxInt)
			hold("Not ", u, notOf(u, i, room), notWords(u, i, room), i, room)
			hold("Equal ", u, equalOf(u, k, l, room), equalWords(u, k, l, room), k, l, room)
			hold("Ite ", u, iteOf(u, i, k, l, room), iteWords(u, i, k, l, room), i, k, l, room)
		}
	}
	if is[true] < 1000 || is[false] < 300 {
		t.Error("too few", is)
	}
	for _, what := range []string{"Not ", "Equal ", "Ite "} {
		for _, e := range []api.Errno{api.OK, api.ErrArg, api.ErrSort, api.ErrMany} {
			if seen[what+e.Error()] < 300 {
				t.Error("too few", what, e, seen)
			}
		}
	}
	if seen["Equal "+api.ErrOver.Error()] < 100 {
		t.Error("too few", seen)
	}
}

// P12.1: tables of whatever may be put, which are seldom core.
func TestIsWords(t *testing.T) {
	d, is := draw(3), map[bool]int{}
	for range 20000 {
		u := d.table(grounds(), 1+d.below(4), 2)
		got := core.Is(u)
		if got != isWords(u) {
			t.Fatal(u)
		}
		is[got]++
	}
	if is[true] < 1000 || is[false] < 1000 {
		t.Error("too few", is)
	}
}

// P12.3: what comes of Of is core, each node once; Of of it is the same.
func TestOfOf(t *testing.T) {
	d, seen := draw(4), 0
	for range 3000 {
		u := d.table(grounds(), 4+d.below(30), 0)
		roots := d.roots(u)
		c, l, e := core.Of(u, roots, math.MaxInt)
		if e != api.OK {
			continue
		}
		if !core.Is(c) || term.Check(c) != api.OK || !places(c, l...) || len(l) != len(roots) {
			t.Fatal(u, roots, c, l)
		}
		all := make([]int, len(c.Nodes))
		for id := range all {
			all[id] = id
		}
		o, same, e := core.Of(c, all, len(all))
		if e != api.OK || !slices.Equal(o.Nodes, c.Nodes) || !slices.Equal(same, all) {
			t.Fatal(u, roots, c, o, same, e)
		}
		o, same, e = core.Of(c, l, math.MaxInt) // of the images alone: they are theirs
		if e != api.OK || len(o.Nodes) > len(c.Nodes) {
			t.Fatal(u, roots, c, o, e)
		}
		for i, id := range l {
			if k := same[i]; o.Nodes[k].Op != c.Nodes[id].Op || o.Nodes[k].Sort != c.Nodes[id].Sort || o.Nodes[k].N != c.Nodes[id].N {
				t.Fatal(u, roots, c, l, o, same)
			}
		}
		seen++
	}
	if seen < 1000 {
		t.Error("too few", seen)
	}
}

// value is one of that sort.
func (d *draw) value(w api.World, sort int) int {
	switch sort {
	case api.Bool:
		return d.below(2)
	case api.Int:
		return d.number()
	}
	return d.below(w.Sizes[sort-own])
}

// world is one that may be of sigma.
func (d *draw) world() api.World {
	w := api.World{Sizes: []int{1 + d.below(3), 1 + d.below(3)}}
	for _, f := range sigma().Funs {
		x := api.FunVal{Else: d.value(w, f.Res)}
		for range d.below(4) {
			r := api.Row{Val: d.value(w, f.Res)}
			for i := range f.Len {
				r.Args[i] = d.value(w, f.Args[i])
			}
			if !slices.ContainsFunc(x.Rows, func(s api.Row) bool { return s.Args == r.Args }) {
				x.Rows = append(x.Rows, r)
			}
		}
		w.Funs = append(w.Funs, x)
	}
	return w
}

// P12.3: a root and its image have the same value, where neither overflows.
func TestInWorlds(t *testing.T) {
	d, same, overs := draw(5), map[int]int{}, 0
	for range 3000 {
		u := d.table(grounds(), 4+d.below(30), 0)
		roots := d.roots(u)
		roots = slices.DeleteFunc(roots, func(id int) bool { return !places(u, id) })
		c, l, e := core.Of(u, roots, math.MaxInt)
		if e != api.OK {
			continue
		}
		if typing.Table(sigma(), c) != api.OK {
			t.Fatal("not well sorted", u, roots, c)
		}
		for range 4 {
			w := d.world()
			if !value.May(sigma(), w) {
				t.Fatal(w)
			}
			for i, id := range roots {
				v, e := eval.Value(sigma(), w, u, id)
				k, f := eval.Value(sigma(), w, c, l[i])
				if e != api.OK || f != api.OK {
					overs++
					continue
				}
				if v != k || u.Nodes[id].Sort != c.Nodes[l[i]].Sort {
					t.Fatal(u, w, id, v, c, l[i], k)
				}
				same[u.Nodes[id].Sort]++
			}
		}
	}
	for s := range own + 2 {
		if same[s] < 500 {
			t.Error("too few", same)
		}
	}
	if overs < 100 {
		t.Error("too few", overs)
	}
}

// P12.3: so it is with what the calls put: what they put is what they say, and
// all that was there is as it was.
func TestPutInWorlds(t *testing.T) {
	d, seen := draw(6), map[string]int{}
	for range 2000 {
		u := d.table(grounds(), 4+d.below(20), 0)
		c, _, e := core.Of(u, []int{len(u.Nodes) - 1, len(u.Nodes) - 2, len(u.Nodes) - 3}, math.MaxInt)
		if e != api.OK {
			continue
		}
		w := d.world()
		l, over, e := eval.Values(sigma(), w, c)
		if e != api.OK {
			t.Fatal(c, e)
		}
		one := d.below(len(c.Nodes))
		i, k, two := d.sorted(c, api.Bool), one, d.sorted(c, c.Nodes[one].Sort)
		if over[i] || over[k] || over[two] {
			continue
		}
		same := 0
		if l[k] == l[two] {
			same = 1
		}
		hold := func(what string, o answer, want int) {
			t.Helper()
			if o.e != api.OK {
				return
			}
			if !slices.Equal(o.t[:len(c.Nodes)], c.Nodes) {
				t.Fatal(what, c, o)
			}
			if v, e := eval.Value(sigma(), w, api.Table{Nodes: o.t}, o.at); v != want || e != api.OK {
				t.Fatal(what, c, w, o, v, e, "not", want)
			}
			seen[what]++
		}
		hold("Not", notOf(c, i, 999), 1-l[i])
		hold("Equal", equalOf(c, k, two, 999), same)
		hold("Ite", iteOf(c, i, k, two, 999), []int{l[two], l[k]}[l[i]])
	}
	if seen["Not"] < 1000 || seen["Equal"] < 1000 || seen["Ite"] < 1000 {
		t.Error("too few", seen)
	}
}

// roomy is l with spare room behind, and that room.
func roomy[T any](l []T, spare T) ([]T, []T) {
	o := make([]T, len(l), len(l)+8)
	copy(o, l)
	room := o[len(o):cap(o)]
	for i := range room {
		room[i] = spare
	}
	return o, room
}

// calls are some of all calls that answer a table: the tables.
func calls(u, v api.Table, roots []int) (l []api.Table, images [][]int) {
	for _, room := range []int{0, 99} {
		for _, id := range []int{api.True, x, y, p, notP, a, x1, -1} {
			for _, k := range []int{x, q, b, id} {
				l = append(l, api.Table{Nodes: notOf(u, k, room).t}, api.Table{Nodes: equalOf(u, id, k, room).t}, api.Table{Nodes: iteOf(u, p, id, k, room).t})
			}
		}
		for n := range len(roots) + 1 {
			o, i, _ := core.Of(v, roots[:n], room)
			l, images = append(l, o), append(images, i)
		}
	}
	core.Is(u)
	core.Is(v)
	return l, images
}

// R4: what is handed in is as it was, the room behind it too; an answer shares
// no memory with it, or with another answer, and none is kept.
func TestMemory(t *testing.T) {
	nodes, room := roomy(base().Nodes, number(1000))
	from, fromRoom := roomy(source(equal(sX1, sY), of(api.OpIte, own, sNot, sA, sB)).Nodes, number(1001))
	roots, rootsRoom := roomy([]int{sEnd, sX, sEnd + 1, sX, 0}, 77)
	u, v := api.Table{Nodes: nodes}, api.Table{Nodes: from}
	u0, v0 := api.Table{Nodes: slices.Clone(nodes)}, api.Table{Nodes: slices.Clone(from)}
	roots0 := slices.Clone(roots)
	kept := func(what string) {
		t.Helper()
		if !slices.Equal(u.Nodes, u0.Nodes) || !slices.Equal(v.Nodes, v0.Nodes) || !slices.Equal(roots, roots0) ||
			slices.ContainsFunc(room, func(n api.Node) bool { return n != number(1000) }) ||
			slices.ContainsFunc(fromRoom, func(n api.Node) bool { return n != number(1001) }) ||
			slices.ContainsFunc(rootsRoom, func(n int) bool { return n != 77 }) {
			t.Fatal(what)
		}
	}
	l, images := calls(u, v, roots)
	kept("changed")
	want, wantImages := calls(u0, v0, roots0)
	for i, o := range l {
		if !slices.Equal(o.Nodes, want[i].Nodes) {
			t.Fatal("hangs on the room, or on an answer", i)
		}
		for k := range o.Nodes[:cap(o.Nodes)] {
			o.Nodes[:cap(o.Nodes)][k] = number(-5000 - i)
		}
		kept("shared")
	}
	for i, o := range images {
		if !slices.Equal(o, wantImages[i]) {
			t.Fatal("hangs on the room, or on an answer", i)
		}
		for k := range o[:cap(o)] {
			o[:cap(o)][k] = -5
		}
		kept("shared")
	}
	l, images = calls(u, v, roots)
	for k := range u.Nodes {
		u.Nodes[k] = number(-9)
	}
	for k := range v.Nodes {
		v.Nodes[k] = number(-9)
	}
	for i, o := range l {
		if !slices.Equal(o.Nodes, want[i].Nodes) {
			t.Fatal("hangs on what was handed in", i)
		}
	}
	for i, o := range images {
		if !slices.Equal(o, wantImages[i]) {
			t.Fatal("hangs on what was handed in", i)
		}
	}
}

// R1, R2: each call ends, and beside an error nothing is told, whatever it is given.
func TestWhatever(t *testing.T) {
	ids := append([]int{0, 1, x, p, notP, end - 1, end}, far...)
	tables := slices.Concat(strange(), crude()[:8], []api.Table{base(), source(), term.New(), upon(base(), odd()...), {Nodes: make([]api.Node, 9)}})
	for _, u := range tables {
		for _, room := range []int{math.MinInt, 0, 2, 99, math.MaxInt} {
			for i, id := range ids {
				k, l := ids[(i*5+1)%len(ids)], ids[(i*3+2)%len(ids)]
				want, images := ofWords(u, []int{id, k}, room)
				o, got := ofOf(u, []int{id, k}, room)
				if !o.same(want) || !slices.Equal(got, images) || !notOf(u, id, room).same(notWords(u, id, room)) ||
					!equalOf(u, id, k, room).same(equalWords(u, id, k, room)) || !iteOf(u, id, k, l, room).same(iteWords(u, id, k, l, room)) {
					t.Fatal(u, room, id, k, l)
				}
			}
		}
	}
}
