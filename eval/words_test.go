package eval_test

import (
	"math"
	"math/big"
	"reflect"
	"slices"
	"testing"

	"gantry/api"
	"gantry/eval"
	"gantry/sig"
	"gantry/term"
	"gantry/typing"
	"gantry/value"
)

func whole(n int) *big.Int { return big.NewInt(int64(n)) }

// may tells whether n is a number that may be.
func may(n *big.Int) bool {
	return n.CmpAbs(whole(api.Most)) <= 0
}

// atMost is AtMost, as the chapter's words say it.
func atMost(a, b, n int) bool {
	d := new(big.Int).Sub(whole(a), whole(b))
	return may(whole(a)) && may(whole(b)) && may(whole(n)) && d.Cmp(whole(n)) <= 0
}

// numbers are some, at bounds and about them.
func numbers() (l []int) {
	for _, n := range []int{0, 1 << 31, 1 << 32, 1 << 60, 1 << 61, 3 << 60, api.Most, math.MaxInt - 1, math.MinInt + 1} {
		for d := -1; d <= 1; d++ {
			l = append(l, n+d, -n+d)
		}
	}
	slices.Sort(l)
	return slices.Compact(append(l, -2, -3, -5, 2, 3, 5))
}

// P10.1: AtMost of all those numbers, held against the words.
func TestAtMostWords(t *testing.T) {
	l := numbers()
	count := map[bool]int{}
	for _, a := range l {
		for _, b := range l {
			ns := slices.Clone(l)
			for d := -1; d <= 1; d++ {
				ns = append(ns, a-b+d)
			}
			for _, n := range ns {
				want := atMost(a, b, n)
				if eval.AtMost(a, b, n) != want {
					t.Fatal(a, b, n)
				}
				count[want]++
			}
		}
	}
	if count[false] < 9999 || count[true] < 9999 {
		t.Error(count)
	}
}

// A reading is what nodes are, as the chapter's words say it, of a table that
// is well sorted, in a world that may be; nil of those that overflow.
type reading struct {
	w     api.World
	t     api.Table
	known map[int]*big.Int
}

func read(w api.World, t api.Table) reading {
	return reading{w, t, map[int]*big.Int{}}
}

func (r reading) at(id int) *big.Int {
	v, ok := r.known[id]
	if !ok {
		v = r.node(r.t.Nodes[id])
		r.known[id] = v
	}
	return v
}

func (r reading) node(n api.Node) *big.Int {
	var l []*big.Int
	for _, at := range n.Args[:n.Len] {
		if l = append(l, r.at(at)); l[len(l)-1] == nil {
			return nil
		}
	}
	switch n.Op {
	case api.OpNum:
		return whole(n.N)
	case api.OpAdd:
		if s := new(big.Int).Add(l[0], whole(n.N)); may(s) {
			return s
		}
		return nil
	case api.OpIte:
		if l[0].Sign() != 0 {
			return l[1]
		}
		return l[2]
	case api.OpApp:
		return r.app(n.Fun, l)
	}
	if holds(n, l) {
		return whole(1)
	}
	return whole(0)
}

// app is what a function is.
func (r reading) app(f int, l []*big.Int) *big.Int {
	for _, row := range r.w.Funs[f].Rows {
		same := true
		for i, v := range l {
			same = same && v.Cmp(whole(row.Args[i])) == 0
		}
		if same {
			return whole(row.Val)
		}
	}
	return whole(r.w.Funs[f].Else)
}

// holds tells whether n, of Bool, is true.
func holds(n api.Node, l []*big.Int) bool {
	is := func(i int) bool { return l[i].Sign() != 0 }
	switch n.Op {
	case api.OpTrue:
		return true
	case api.OpNot:
		return !is(0)
	case api.OpAnd:
		return is(0) && is(1)
	case api.OpOr:
		return is(0) || is(1)
	case api.OpXor:
		return is(0) != is(1)
	case api.OpImp:
		return !is(0) || is(1)
	case api.OpEq:
		return l[0].Cmp(l[1]) == 0
	case api.OpLe:
		return l[0].Cmp(l[1]) <= 0
	case api.OpLt:
		return l[0].Cmp(l[1]) < 0
	case api.OpDiff:
		return new(big.Int).Sub(l[0], l[1]).Cmp(whole(n.N)) <= 0
	}
	panic("no kind")
}

// A draw gives numbers that are alike each time.
type draw uint64

// below is a number from 0 to n - 1.
func (d *draw) below(n int) int {
	*d = *d*6364136223846793005 + 1442695040888963407
	return int(uint64(*d) >> 33 % uint64(n))
}

func (d *draw) from(l ...int) int { return l[d.below(len(l))] }

func (d *draw) number() int {
	if d.below(3) == 0 {
		return d.below(5) - 2
	}
	return d.from(api.Most, -api.Most, api.Most-1, 1-api.Most, 1<<61, -1<<61, 1<<61+1, 3<<60)
}

// value is one of that sort.
func (d *draw) value(w api.World, sort int) int {
	switch sort {
	case api.Bool:
		return d.below(2)
	case api.Int:
		return d.number()
	}
	return d.below(w.Sizes[sort-own])
}

// fun is something that function f may be.
func (d *draw) fun(g api.Sig, w api.World, f int) (x api.FunVal) {
	x.Else = d.value(w, g.Funs[f].Res)
	for range d.below(5) {
		r := api.Row{Val: d.value(w, g.Funs[f].Res)}
		for i := range g.Funs[f].Len {
			r.Args[i] = d.value(w, g.Funs[f].Args[i])
		}
		if !slices.ContainsFunc(x.Rows, func(s api.Row) bool { return s.Args == r.Args }) {
			x.Rows = append(x.Rows, r)
		}
	}
	return x
}

// world is one that may be of g.
func (d *draw) world(g api.Sig) (w api.World) {
	for range g.Sorts {
		w.Sizes = append(w.Sizes, 1+d.below(4))
	}
	for f := range g.Funs {
		w.Funs = append(w.Funs, d.fun(g, w, f))
	}
	return w
}

// sig is a signature that may be.
func (d *draw) sig() (g api.Sig) {
	g.Sorts = []string{"A", "b c"}[:d.below(3)]
	for i := range 2 + d.below(8) {
		f := api.Fun{Name: string(rune('f' + i)), Len: d.below(4), Res: d.below(own + len(g.Sorts))}
		for j := range f.Len {
			f.Args[j] = d.below(own + len(g.Sorts))
		}
		g.Funs = append(g.Funs, f)
	}
	return g
}

// place is a place of that sort, rather a great one; none, if there is none.
func (d *draw) place(t api.Table, sort int) int {
	var l []int
	for at, n := range t.Nodes {
		if n.Sort == sort {
			l = append(l, at)
		}
	}
	if len(l) == 0 {
		return -1
	}
	return l[len(l)-1-min(d.below(len(l)), d.below(len(l)))]
}

// node is one that may often be put behind t.
func (d *draw) node(g api.Sig, t api.Table) (api.Node, bool) {
	op, f, n := int8(d.below(int(api.OpApp)+6)), 0, 0
	one := d.below(own + len(g.Sorts))
	sorts := []int{api.Bool, api.Bool}
	switch op {
	case api.OpTrue, api.OpNum:
		sorts = nil
	case api.OpNot:
		sorts = sorts[1:]
	case api.OpEq:
		sorts = []int{one, one}
	case api.OpIte:
		sorts = []int{api.Bool, one, one}
	case api.OpLe, api.OpLt, api.OpDiff:
		sorts = []int{api.Int, api.Int}
	case api.OpAdd:
		sorts = []int{api.Int}
	}
	if op >= api.OpApp {
		op, f = api.OpApp, d.below(len(g.Funs))
		sorts = g.Funs[f].Args[:g.Funs[f].Len]
	}
	if op == api.OpNum || op == api.OpAdd || op == api.OpDiff {
		n = d.number()
	}
	var l []int
	for _, s := range sorts {
		l = append(l, d.place(t, s))
	}
	x, e := typing.Make(g, t, op, l, f, n)
	return x, e == api.OK
}

// grown is t with some nodes more behind it.
func (d *draw) grown(g api.Sig, t api.Table, n int) api.Table {
	for range n {
		if x, ok := d.node(g, t); ok {
			t, _, _ = term.Put(t, x, math.MaxInt)
		}
	}
	return t
}

// told is what All answers, as the chapter's words say it, where Values answers
// no error.
func (r reading) told(roots []int) (bool, api.Errno) {
	all := true
	for _, id := range roots {
		switch {
		case id < 0 || id >= len(r.t.Nodes):
			return false, api.ErrArg
		case r.at(id) == nil:
			return false, api.ErrOver
		case r.t.Nodes[id].Sort != api.Bool:
			return false, api.ErrSort
		}
		all = all && r.at(id).Sign() != 0
	}
	return all, api.OK
}

// held holds what the calls answer of each place against the words; and tells
// how many places overflow.
func held(t *testing.T, g api.Sig, w api.World, l api.Table) (overs int) {
	t.Helper()
	r := read(w, l)
	vals, over, e := eval.Values(g, w, l)
	if e != api.OK || len(vals) != len(l.Nodes) || len(over) != len(vals) {
		t.Fatal(g, w, l, vals, over, e)
	}
	for id, n := range l.Nodes {
		want, we, wo := 0, api.OK, r.at(id) == nil
		if wo {
			we = api.ErrOver
			overs++
		} else {
			want = int(r.at(id).Int64())
		}
		if vals[id] != want || over[id] != wo {
			t.Fatal("Values", g, w, l, id, vals[id], over[id], want)
		}
		if v, e := eval.Value(g, w, l, id); v != want || e != we {
			t.Fatal("Value", g, w, l, id, v, e)
		}
		if !value.Is(g, w, n.Sort, vals[id]) {
			t.Fatal("no value of its sort", g, w, l, id, vals[id])
		}
	}
	return overs
}

// P10.1, P10.2, P10.3: made tables in made worlds, held against the words.
func TestMade(t *testing.T) {
	d := draw(10)
	nodes, overs := 0, 0
	count := map[api.Errno]int{}
	for range 1500 {
		g := d.sig()
		w, l := d.world(g), d.grown(g, term.New(), 30)
		if !value.May(g, w) || typing.Table(g, l) != api.OK {
			t.Fatal("made wrong", g, w, l)
		}
		nodes += len(l.Nodes)
		overs += held(t, g, w, l)
		r := read(w, l)
		for range 30 {
			var roots []int
			for range d.below(4) {
				at := d.place(l, api.Bool)
				if d.below(4) == 0 {
					at = d.below(len(l.Nodes)+2) - 1
				}
				roots = append(roots, at)
			}
			all, e := eval.All(g, w, l, roots)
			if want, we := r.told(roots); all != want || e != we {
				t.Fatal(g, w, l, roots, all, e)
			}
			count[e]++
			if all && len(roots) > 0 {
				count[-1]++
			}
		}
	}
	if overs < nodes/20 || overs > nodes/2 {
		t.Error(nodes, overs)
	}
	for _, e := range []api.Errno{-1, api.OK, api.ErrArg, api.ErrOver, api.ErrSort} {
		if count[e] < 1000 {
			t.Error(e, count)
		}
	}
}

// P10.3: nodes put behind change no value.
func TestBehind(t *testing.T) {
	d := draw(11)
	for range 500 {
		g := d.sig()
		w, few := d.world(g), d.grown(g, term.New(), d.below(20))
		n := len(few.Nodes)
		more := d.grown(g, few, 20)
		l, over, e := eval.Values(g, w, few)
		l1, over1, e1 := eval.Values(g, w, more)
		if e != api.OK || e1 != api.OK || !slices.Equal(l, l1[:n]) || !slices.Equal(over, over1[:n]) || len(l1) != len(more.Nodes) {
			t.Fatal(g, w, few, more, l, l1, over, over1)
		}
		for id := range few.Nodes {
			v, e := eval.Value(g, w, few, id)
			v1, e1 := eval.Value(g, w, more, id)
			if v != v1 || e != e1 {
				t.Fatal(g, w, few, more, id, v, v1, e, e1)
			}
		}
	}
}

// alike is another world than w, with values more, which is alike where the
// functions of what id is reached from are asked.
func (d *draw) alike(t *testing.T, g api.Sig, w api.World, l api.Table, id int) api.World {
	t.Helper()
	r := read(w, l)
	o := api.World{Sizes: slices.Clone(w.Sizes)}
	for i := range o.Sizes {
		o.Sizes[i] += d.below(2)
	}
	for f := range g.Funs {
		o.Funs = append(o.Funs, d.fun(g, o, f))
	}
	for _, at := range term.Reach(l, []int{id}) {
		n := l.Nodes[at]
		if n.Op != api.OpApp || r.at(at) == nil {
			continue
		}
		var asked []int
		for _, i := range n.Args[:n.Len] {
			asked = append(asked, int(r.at(i).Int64()))
		}
		var e api.Errno
		if o, e = value.With(g, o, n.Fun, asked, int(r.at(at).Int64())); e != api.OK {
			t.Fatal(g, w, l, id, e)
		}
	}
	return o
}

// P10.3: worlds that are alike where what is reached is asked give the same.
func TestAlike(t *testing.T) {
	d := draw(12)
	others := 0
	for range 1000 {
		g := d.sig()
		w, l := d.world(g), d.grown(g, term.New(), 25)
		id := len(l.Nodes) - 1 - d.below(3)
		if id < 0 {
			continue
		}
		o := d.alike(t, g, w, l, id)
		v, e := eval.Value(g, w, l, id)
		v1, e1 := eval.Value(g, o, l, id)
		if v != v1 || e != e1 {
			t.Fatal(g, w, o, l, id, v, v1, e, e1)
		}
		if !value.Same(w, o) {
			others++
		}
	}
	if others < 800 {
		t.Error(others)
	}
}

func copied(w api.World) api.World {
	w.Sizes, w.Funs = slices.Clone(w.Sizes), slices.Clone(w.Funs)
	for i := range w.Funs {
		w.Funs[i].Rows = slices.Clone(w.Funs[i].Rows)
	}
	return w
}

// roomy is l in new memory with room behind it.
func roomy[T any](l []T, spare T) []T {
	n := len(l)
	return append(slices.Clone(l), spare, spare)[:n]
}

// behind is l with its room.
func behind[T any](l []T) []T { return l[:len(l)+2] }

// R4: what is handed in is as it was, the room behind it too; an answer shares
// no memory with it, or with another.
func TestMemory(t *testing.T) {
	g, w, l, roots := sigma(), some(), wide(t).t, []int{p, end, 0}
	g.Sorts, g.Funs = roomy(g.Sorts, "spare"), roomy(g.Funs, api.Fun{Name: "spare"})
	w.Sizes, w.Funs = roomy(w.Sizes, 77), roomy(w.Funs, api.FunVal{Else: 77})
	for i := range w.Funs {
		w.Funs[i].Rows = roomy(w.Funs[i].Rows, row(77, 77, 77, 77))
	}
	l.Nodes, roots = roomy(l.Nodes, api.Node{Op: 77}), roomy(roots, 77)
	whole := func(g api.Sig, w api.World, l api.Table, roots []int) []any {
		all := []any{behind(g.Sorts), behind(g.Funs), behind(w.Sizes), behind(w.Funs), behind(l.Nodes), behind(roots)}
		for i := range w.Funs {
			all = append(all, behind(w.Funs[i].Rows))
		}
		return all
	}
	g1, l1, roots1, w1 := g, l, slices.Clone(behind(roots))[:len(roots)], copied(w)
	g1.Sorts, g1.Funs, l1.Nodes = slices.Clone(behind(g.Sorts))[:len(g.Sorts)], slices.Clone(behind(g.Funs))[:len(g.Funs)], slices.Clone(behind(l.Nodes))[:len(l.Nodes)]
	w1.Sizes, w1.Funs = slices.Clone(behind(w.Sizes))[:len(w.Sizes)], slices.Clone(behind(w.Funs))[:len(w.Funs)]
	for i := range w1.Funs {
		w1.Funs[i].Rows = slices.Clone(behind(w.Funs[i].Rows))[:len(w.Funs[i].Rows)]
	}
	kept := func() bool {
		return reflect.DeepEqual(whole(g, w, l, roots), whole(g1, w1, l1, roots1)) && sig.Same(g, sigma())
	}
	vals, over, e := eval.Values(g, w, l)
	more, over1, e1 := eval.Values(g, w, l)
	if e != api.OK || e1 != api.OK || !kept() || !slices.Equal(vals, more) || !slices.Equal(over, over1) {
		t.Fatal(vals, more, over, over1, e, e1)
	}
	was := slices.Clone(more)
	for i := range vals[:cap(vals)] {
		vals[:cap(vals)][i] = 99
	}
	for i := range over[:cap(over)] {
		over[:cap(over)][i] = true
	}
	if !kept() || !slices.Equal(more, was) || slices.Contains(over1, true) {
		t.Error("shared", more, over1)
	}
	for at := -1; at <= len(l.Nodes); at++ {
		eval.Value(g, w, l, at)
		eval.All(g, w, l, append(roomy(roots, 77), at))
	}
	all, e := eval.All(g, w, l, roots)
	if !all || e != api.OK || !kept() {
		t.Error(all, e, kept())
	}
	l.Nodes[p].Sort = api.Int
	l1.Nodes[p].Sort = api.Int
	eval.Values(g, w, l)
	eval.All(g, w, l, roots)
	if !kept() {
		t.Error("changed beside an error")
	}
}

// R1: a tree with far more parts than could be gone over, a long chain, and a
// world that is as great as may be.
func TestLong(t *testing.T) {
	tree := base(t).t
	for range 150 {
		at := len(tree.Nodes) - 1
		if at < end {
			at = p
		}
		tree.Nodes = append(tree.Nodes, api.Node{Op: api.OpAnd, Len: 2, Args: args(at, at)})
	}
	if v, e := eval.Value(sigma(), some(), tree, len(tree.Nodes)-1); v != 1 || e != api.OK {
		t.Error(v, e)
	}
	chain := base(t).t
	for range 1 << 15 {
		at := len(chain.Nodes) - 1
		if at < end {
			at = x
		}
		chain.Nodes = append(chain.Nodes, api.Node{Op: api.OpAdd, Len: 1, Args: args(at), Sort: api.Int, N: 1 << 47})
	}
	// Of 2^15 steps of 2^47 all but the last are below Most with 5 put to them.
	l, over, e := eval.Values(sigma(), some(), chain)
	n := len(l) - 1
	if e != api.OK || n != end-1+1<<15 || slices.Index(over, true) != n || l[n] != 0 || l[n-1] != api.Most-1<<47+5 {
		t.Error(n, e, slices.Index(over, true))
	}
	w := some()
	for f, x := range sigma().Funs {
		for i := range 400 {
			if x.Len > 0 && x.Args[0] == api.Int {
				w.Funs[f].Rows = append(w.Funs[f].Rows, row(i%2, i+99))
			}
		}
		w.Funs[f].Rows = w.Funs[f].Rows[:min(400, len(w.Funs[f].Rows))]
	}
	wide := base(t).t
	for i := range 600 {
		at := len(wide.Nodes)
		wide.Nodes = append(wide.Nodes, api.Node{Op: api.OpNum, Sort: api.Int, N: i + 90}, api.Node{Op: api.OpApp, Len: 1, Args: args(at), Sort: api.Int, Fun: fF})
	}
	held(t, sigma(), w, api.Table{Nodes: wide.Nodes[:end+99]})
	if l, _, e := eval.Values(sigma(), w, wide); e != api.OK || l[end+2*110+1] != 1 || l[end+1] != 9 {
		t.Error(e)
	}
}

// R1: whatever is handed in, all calls end.
func TestStrange(t *testing.T) {
	loop := api.Sexp{Kind: api.SxList, L: make([]api.Sexp, 2)}
	loop.L[1] = loop
	endless := sigma()
	endless.Macros = []api.Macro{{Name: "m", Body: loop}}
	tables := append(append(ills(t), wrongs(t)...), wide(t).t, api.Table{Nodes: make([]api.Node, 999)})
	for _, g := range append(sigs(), endless, sigma(), api.Sig{}, api.Sig{Sorts: make([]string, 99), Funs: make([]api.Fun, 99), Macros: make([]api.Macro, 99)}) {
		for _, w := range append(worlds(), some(), value.Plain(g)) {
			for _, l := range tables {
				eval.Values(g, w, l)
				for _, n := range []int{-1, 0, 98, math.MinInt, math.MaxInt} {
					eval.Value(g, w, l, n)
					eval.All(g, w, l, []int{0, n})
				}
			}
		}
	}
	if _, _, e := eval.Values(endless, some(), wide(t).t); e != api.ErrArg {
		t.Error(e)
	}
}
