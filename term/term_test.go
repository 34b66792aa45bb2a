package term_test

import (
	"math"
	"slices"
	"testing"

	"gantry/api"
	"gantry/term"
)

// far are numbers that are no place of any table.
var far = []int{math.MinInt, math.MinInt32, -2, -1, 1 << 20, math.MaxInt32, math.MaxInt}

func args(l ...int) (a [api.MaxArgs]int) {
	copy(a[:], l)
	return a
}

// of is a node of that kind, Bool, of those Args.
func of(op int8, l ...int) api.Node {
	return api.Node{Op: op, Len: int8(len(l)), Args: args(l...)}
}

// num is the Int node n.
func num(n int) api.Node { return api.Node{Op: api.OpNum, Sort: api.Int, N: n} }

// table is a table of True, Zero and those nodes.
func table(l ...api.Node) api.Table {
	return api.Table{Nodes: append([]api.Node{{Op: api.OpTrue}, num(0)}, l...)}
}

// some is a table with a node of each kind, which may be. Its places:
// 2, 3 Int functions without arguments, 4 the Bool one, from 5 on the kinds.
func some() api.Table {
	return table(
		api.Node{Op: api.OpApp, Sort: api.Int},
		api.Node{Op: api.OpApp, Sort: api.Int, Fun: 1},
		api.Node{Op: api.OpApp, Fun: 2},
		of(api.OpNot, 4),
		of(api.OpAnd, 4, 5),
		of(api.OpOr, 6, 6),
		of(api.OpXor, 0, 7),
		of(api.OpImp, 8, 4),
		of(api.OpEq, 2, 3),
		api.Node{Op: api.OpIte, Len: 3, Args: args(4, 2, 3), Sort: api.Int},
		of(api.OpLe, 2, 11),
		of(api.OpLt, 11, 2),
		num(-7),
		api.Node{Op: api.OpAdd, Len: 1, Args: args(11), Sort: api.Int, N: 5},
		api.Node{Op: api.OpDiff, Len: 2, Args: args(15, 2), N: -3},
		api.Node{Op: api.OpApp, Len: 1, Args: args(15), Sort: api.Own, Fun: 3},
		api.Node{Op: api.OpApp, Len: 2, Args: args(17, 17), Sort: api.Own, Fun: 4},
		api.Node{Op: api.OpApp, Len: 3, Args: args(18, 2, 17), Sort: api.Own, Fun: 5},
	)
}

// roomy is t with spare room behind, and that room.
func roomy(t api.Table) (api.Table, []api.Node) {
	l := make([]api.Node, len(t.Nodes), len(t.Nodes)+8)
	copy(l, t.Nodes)
	room := l[len(l):cap(l)]
	for i := range room {
		room[i] = num(1000 + i)
	}
	return api.Table{Nodes: l}, room
}

func copied(t api.Table) api.Table { return api.Table{Nodes: slices.Clone(t.Nodes)} }

func equal(a, b api.Table) bool { return slices.Equal(a.Nodes, b.Nodes) }

// put is term.Put, which must have room.
func put(t *testing.T, u api.Table, n api.Node) (api.Table, int) {
	t.Helper()
	o, at, e := term.Put(u, n, math.MaxInt)
	if e != api.OK {
		t.Fatal(n, e)
	}
	return o, at
}

// refused tells whether n may not be put behind u, nor u be with it; a table
// that may not be stays one.
func refused(t *testing.T, u api.Table, n api.Node) bool {
	t.Helper()
	o, at, e := term.Put(u, n, math.MaxInt)
	if e == api.OK {
		return false
	}
	if e != api.ErrArg || at != 0 || o.Nodes != nil {
		t.Error("Put", n, o, at, e)
	}
	w := api.Table{Nodes: append(slices.Clone(u.Nodes), n)}
	if term.Check(w) != api.ErrArg {
		t.Error("Check", n)
	}
	if _, _, e := term.Put(w, num(77), math.MaxInt); e != api.ErrArg {
		t.Error("Put behind", n, e)
	}
	if o, e := term.Cut(w, len(u.Nodes)); e != api.ErrArg || o.Nodes != nil {
		t.Error("Cut ahead of", n, o, e)
	}
	return true
}

// accepted tells whether n may be put behind u, where it is not yet there.
func accepted(t *testing.T, u api.Table, n api.Node) bool {
	t.Helper()
	o, at, e := term.Put(u, n, math.MaxInt)
	w := api.Table{Nodes: append(slices.Clone(u.Nodes), n)}
	return e == api.OK && at == len(u.Nodes) && equal(o, w) && term.Check(w) == api.OK
}

// P5.1: True and Zero alone, each time anew.
func TestNew(t *testing.T) {
	u := term.New()
	want := []api.Node{{Op: api.OpTrue, Sort: api.Bool}, {Op: api.OpNum, Sort: api.Int}}
	if !slices.Equal(u.Nodes, want) || term.Check(u) != api.OK {
		t.Error(u)
	}
	u.Nodes[0], u.Nodes[1] = num(3), num(4)
	if w := term.New(); !slices.Equal(w.Nodes, want) {
		t.Error("kept", w)
	}
}

// P5.1: what may be.
func TestCheck(t *testing.T) {
	for n := range len(some().Nodes) - 1 {
		u := api.Table{Nodes: some().Nodes[:n+2]}
		if e := term.Check(u); e != api.OK {
			t.Error(n, e)
		}
	}
}

// P5.1, P5.2: a table of nothing, or whose first nodes are others, may not be,
// whatever is done with it.
func TestFirstNodes(t *testing.T) {
	yes, zero := api.Node{Op: api.OpTrue}, num(0)
	wrong := [][]api.Node{nil, {}, {yes}, {zero}, {zero, yes}, {yes, yes}, {zero, zero}, {yes, zero, yes}, {yes, zero, zero}}
	for _, n := range []api.Node{num(0), {Op: api.OpTrue, Sort: api.Int}, {Op: api.OpTrue, Sort: api.Own}, {Op: api.OpNum}, {Op: api.OpApp},
		{Op: api.OpTrue, N: 1}, {Op: api.OpTrue, Fun: 1}, {Op: api.OpTrue, Len: 1}, {Op: api.OpTrue, Args: args(0, 0, 1)}} {
		wrong = append(wrong, []api.Node{n, zero}, []api.Node{n, zero, yes})
	}
	for _, n := range []api.Node{yes, {Op: api.OpNum}, {Op: api.OpNum, Sort: api.Own}, num(1), num(-1), {Op: api.OpApp, Sort: api.Int},
		{Op: api.OpNum, Sort: api.Int, Fun: 1}, {Op: api.OpNum, Sort: api.Int, Len: 1}, of(api.OpNot, 0)} {
		wrong = append(wrong, []api.Node{yes, n}, []api.Node{yes, n, zero})
	}
	for _, l := range wrong {
		u := api.Table{Nodes: l}
		if e := term.Check(u); e != api.ErrArg {
			t.Error("Check", l, e)
		}
		for _, n := range []api.Node{yes, zero, num(5)} {
			if o, at, e := term.Put(u, n, 50); e != api.ErrArg || at != 0 || o.Nodes != nil {
				t.Error("Put", l, n, o, at, e)
			}
		}
		for n := range 5 {
			if o, e := term.Cut(u, n); e != api.ErrArg || o.Nodes != nil {
				t.Error("Cut", l, n, o, e)
			}
		}
	}
}

// arity is how many Args a node of that kind has at least and at most, as the
// chapter's words list them; no kind has -1.
func arity(op int8) (int8, int8) {
	switch op {
	case api.OpTrue, api.OpNum:
		return 0, 0
	case api.OpNot, api.OpAdd:
		return 1, 1
	case api.OpAnd, api.OpOr, api.OpXor, api.OpImp, api.OpEq, api.OpLe, api.OpLt, api.OpDiff:
		return 2, 2
	case api.OpIte:
		return 3, 3
	case api.OpApp:
		return 0, api.MaxArgs
	}
	return -1, -1
}

// fresh is a node of that kind with n Args, which is not in some().
func fresh(op int8, n int8) api.Node {
	a := api.Node{Op: op, Len: n, Sort: api.Own + 1}
	for i := range min(max(int(n), 0), api.MaxArgs) {
		a.Args[i] = i + 1
	}
	return a
}

// P5.1, P5.2: each kind with as many Args as it has, and with any other number.
func TestKinds(t *testing.T) {
	u := some()
	for op := math.MinInt8; op <= math.MaxInt8; op++ {
		least, most := arity(int8(op))
		for n := math.MinInt8; n <= math.MaxInt8; n++ {
			a := fresh(int8(op), int8(n))
			if may := least <= int8(n) && int8(n) <= most && most >= 0; may != accepted(t, u, a) || may == refused(t, u, a) {
				t.Fatal(a, may)
			}
		}
	}
}

// eachKind is each kind with each number of Args that it has.
func eachKind(do func(a api.Node)) {
	for op := api.OpTrue; op <= api.OpApp; op++ {
		least, most := arity(op)
		for n := least; n <= most; n++ {
			do(fresh(op, n))
		}
	}
}

// P5.1, P5.2: Args lie below their place, and what is behind Len is 0.
func TestArgs(t *testing.T) {
	u := some()
	here := len(u.Nodes)
	eachKind(func(a api.Node) {
		for i := range a.Args {
			for _, at := range append([]int{0, 1, 2, here - 1, here, here + 1}, far...) {
				b := a
				b.Args[i] = at
				may := at == 0
				if i < int(a.Len) {
					may = 0 <= at && at < here
				}
				if may != accepted(t, u, b) || may == refused(t, u, b) {
					t.Error(b, may)
				}
			}
		}
	})
}

// P5.1: an Arg's bound is its own place, not the table's end.
func TestArgsWithin(t *testing.T) {
	for at := range 8 {
		u := table(of(api.OpNot, 0), of(api.OpNot, 1), of(api.OpNot, at), num(5), num(6), num(7))
		want := api.OK
		if at < 2 || at >= 4 { // there already, or not below
			want = api.ErrArg
		}
		if e := term.Check(u); e != want {
			t.Error(at, e)
		}
	}
}

// P5.1, P5.2: Sort, Fun and N, each at its bounds and past them.
func TestBounds(t *testing.T) {
	u := some()
	hold := func(a api.Node, may bool) {
		t.Helper()
		if may != accepted(t, u, a) || may == refused(t, u, a) {
			t.Error(a, may)
		}
	}
	eachKind(func(a api.Node) {
		for _, n := range append([]int{0, 1, 2, 3, 4, 5, 6, 7, 8}, far...) {
			b := a
			b.Sort, b.Fun, b.N = n, 0, 0
			if a.Op == api.OpApp {
				b.Fun = 11
			}
			if _, there := term.Find(u, b); !there {
				hold(b, 0 <= n && n <= 5)
			}
		}
		for _, n := range append([]int{0, 1, 2, 10, 11, 12, 13}, far...) {
			b := a
			b.Fun = n
			hold(b, n == 0 || a.Op == api.OpApp && 0 <= n && n <= 11)
		}
		for _, n := range append([]int{0, 1, -api.Most - 1, -api.Most, 1 - api.Most, api.Most - 1, api.Most, api.Most + 1}, far...) {
			b := a
			b.N = n
			numeric := a.Op == api.OpNum || a.Op == api.OpAdd || a.Op == api.OpDiff
			hold(b, n == 0 || numeric && -api.Most <= n && n <= api.Most)
		}
	})
}

// P5.1, P5.2: a node that is there twice, wherever.
func TestTwice(t *testing.T) {
	u := some()
	for at, n := range u.Nodes {
		w := api.Table{Nodes: append(slices.Clone(u.Nodes), n)}
		if term.Check(w) != api.ErrArg {
			t.Error("Check", at)
		}
		if _, _, e := term.Put(w, n, 50); e != api.ErrArg {
			t.Error("Put", at, e)
		}
		if _, e := term.Cut(w, len(u.Nodes)); e != api.ErrArg {
			t.Error("Cut", at, e)
		}
	}
	w := table(num(5), num(5), num(6))
	if term.Check(w) != api.ErrArg {
		t.Error("next to each other")
	}
}

// others are nodes that are n but for one field.
func others(n api.Node) (l []api.Node) {
	for i := range 5 + api.MaxArgs {
		o := n
		switch i {
		case 0:
			o.Op++
		case 1:
			o.Len++
		case 2:
			o.Sort++
		case 3:
			o.Fun++
		case 4:
			o.N++
		default:
			o.Args[i-5]++
		}
		l = append(l, o)
	}
	return l
}

// P5.1: the place of that node; of one that differs in any field, none.
func TestFind(t *testing.T) {
	u := some()
	for want, n := range u.Nodes {
		if at, ok := term.Find(u, n); at != want || !ok {
			t.Error(n, at, ok)
		}
		for _, o := range others(n) {
			if slices.Contains(u.Nodes, o) {
				continue
			}
			if at, ok := term.Find(u, o); at != 0 || ok {
				t.Error(o, at, ok)
			}
		}
	}
	if at, ok := term.Find(api.Table{}, api.Node{}); at != 0 || ok {
		t.Error("in nothing", at, ok)
	}
	// tables that may not be: the first one, also of nodes that may not be
	odd := api.Node{Op: -3, Len: 99, Sort: -1, Fun: math.MinInt, N: math.MaxInt, Args: args(7, -7, 7)}
	w := api.Table{Nodes: []api.Node{num(5), odd, num(5), odd}}
	if at, ok := term.Find(w, odd); at != 1 || !ok {
		t.Error("odd", at, ok)
	}
	if at, ok := term.Find(w, num(5)); at != 0 || !ok {
		t.Error("twice", at, ok)
	}
}

// P5.1: the same nodes in the same order.
func TestSame(t *testing.T) {
	u := some()
	if !term.Same(u, copied(u)) || !term.Same(api.Table{}, api.Table{Nodes: []api.Node{}}) || !term.Same(api.Table{}, api.Table{}) {
		t.Error("not the same")
	}
	unlike := func(w api.Table) {
		t.Helper()
		if term.Same(u, w) || term.Same(w, u) {
			t.Error(w)
		}
	}
	unlike(api.Table{})
	for at, n := range u.Nodes {
		unlike(api.Table{Nodes: u.Nodes[:at]})
		for _, o := range others(n) {
			w := copied(u)
			w.Nodes[at] = o
			unlike(w)
		}
		if at > 0 {
			w := copied(u)
			w.Nodes[at], w.Nodes[at-1] = w.Nodes[at-1], w.Nodes[at]
			unlike(w)
		}
	}
	// also of tables that may not be
	if a, b := (api.Table{Nodes: []api.Node{num(5)}}), (api.Table{Nodes: []api.Node{num(6)}}); !term.Same(a, a) || term.Same(a, b) {
		t.Error("that may not be")
	}
}

// P5.2: behind, at its place; the chapter's example.
func TestPut(t *testing.T) {
	u := term.New()
	for want, n := range some().Nodes {
		o, at := put(t, u, n)
		if at != want || !slices.Equal(o.Nodes, some().Nodes[:max(2, want+1)]) {
			t.Error(n, at, o)
		}
		u = o
	}
	u, at := put(t, term.New(), num(5))
	w, again := put(t, u, num(5))
	if at != 2 || again != 2 || !equal(u, table(num(5))) || !equal(u, w) {
		t.Error(at, again, u, w)
	}
}

// P5.2: most met exactly, and passed by one; what is there needs no room.
func TestMost(t *testing.T) {
	u := some()
	n := len(u.Nodes)
	for _, most := range append([]int{0, 1, 2, n - 1, n, n + 1}, far...) {
		o, at, e := term.Put(u, num(9), most)
		if most > n {
			if e != api.OK || at != n || len(o.Nodes) != n+1 {
				t.Error(most, o, at, e)
			}
		} else if e != api.ErrMany || at != 0 || o.Nodes != nil {
			t.Error(most, o, at, e)
		}
		for want, there := range u.Nodes {
			if o, at, e := term.Put(u, there, most); e != api.OK || at != want || !equal(o, u) {
				t.Error(most, there, o, at, e)
			}
		}
	}
	w, e := term.New(), api.OK
	for i := range 10 {
		if w, _, e = term.Put(w, num(i+1), 12); e != api.OK {
			t.Error(i, e)
		}
	}
	if _, _, e := term.Put(w, num(11), 12); e != api.ErrMany {
		t.Error(e)
	}
}

// P5.2 (R2): which goes ahead where several hold.
func TestPutOrder(t *testing.T) {
	u, bad := some(), of(api.OpNot, 99)
	broken := api.Table{Nodes: append(slices.Clone(u.Nodes), bad)}
	for i, c := range []struct {
		t    api.Table
		n    api.Node
		most int
		e    api.Errno
	}{
		{broken, num(9), 0, api.ErrArg},
		{broken, num(9), 50, api.ErrArg},
		{broken, u.Nodes[4], 0, api.ErrArg}, // that is there
		{broken, bad, 0, api.ErrArg},        // that is there, and may not stand
		{u, bad, 0, api.ErrArg},
		{u, bad, 50, api.ErrArg},
		{u, u.Nodes[4], 0, api.OK},
		{u, num(9), 0, api.ErrMany},
	} {
		o, at, e := term.Put(c.t, c.n, c.most)
		if e != c.e || e != api.OK && (at != 0 || o.Nodes != nil) {
			t.Error(i, o, at, e)
		}
	}
}

// P5.2: at 2, at all there is, and between; below and beyond.
func TestCut(t *testing.T) {
	u := some()
	for n := 2; n <= len(u.Nodes); n++ {
		o, e := term.Cut(u, n)
		if e != api.OK || !slices.Equal(o.Nodes, u.Nodes[:n]) || term.Check(o) != api.OK {
			t.Error(n, o, e)
		}
	}
	for _, n := range append([]int{0, 1, len(u.Nodes) + 1}, far...) {
		if o, e := term.Cut(u, n); e != api.ErrArg || o.Nodes != nil {
			t.Error(n, o, e)
		}
	}
	if o, e := term.Cut(term.New(), 2); e != api.OK || !equal(o, term.New()) {
		t.Error(o, e)
	}
	if _, e := term.Cut(term.New(), 3); e != api.ErrArg {
		t.Error(e)
	}
	r, _ := roomy(u)
	if _, e := term.Cut(r, len(u.Nodes)+1); e != api.ErrArg {
		t.Error("into the spare room", e)
	}
}

// R4: what was handed in is as it was behind every Put and Cut, its spare room
// included, and no answer is touched through another or through what was handed in.
func TestMemory(t *testing.T) {
	u, room := roomy(some())
	was, wasRoom := copied(u), slices.Clone(room)
	held := func(when string) {
		t.Helper()
		if !equal(u, was) || !slices.Equal(room, wasRoom) {
			t.Fatal("changed by", when)
		}
	}
	n := len(u.Nodes)
	answers := make([]api.Table, 0, 8)
	for _, a := range []api.Node{num(9), num(10), u.Nodes[n-1], u.Nodes[0]} {
		o, _ := put(t, u, a)
		answers = append(answers, o)
		held("Put")
	}
	for _, k := range []int{2, n - 1, n} {
		o, e := term.Cut(u, k)
		if e != api.OK {
			t.Fatal(e)
		}
		answers = append(answers, o)
		held("Cut")
	}
	term.Put(u, num(9), 0)
	term.Put(u, of(api.OpNot, 99), 50)
	term.Cut(u, n+1)
	term.Reach(u, []int{n - 1})
	term.Tree(u, n-1)
	term.Depth(u, n-1)
	held("others")
	for i, o := range answers {
		rest := append(slices.Clone(answers[:i]), answers[i+1:]...)
		kept := make([]api.Table, len(rest))
		for j := range rest {
			kept[j] = copied(rest[j])
		}
		for at := range o.Nodes[:cap(o.Nodes)] {
			o.Nodes[:cap(o.Nodes)][at] = num(-1 - at)
		}
		held("an answer")
		for j := range rest {
			if !equal(rest[j], kept[j]) {
				t.Fatal("shared", i, j)
			}
		}
	}
}

// R4: what was answered does not change with later Puts to the same table, or
// when what was handed in is written over.
func TestAnswersStay(t *testing.T) {
	u, _ := put(t, some(), num(9))
	a, _ := put(t, u, num(10))
	b, _ := put(t, u, num(11))
	c, _ := put(t, a, num(12))
	d, _ := put(t, a, num(13))
	n := len(u.Nodes)
	if a.Nodes[n] != num(10) || b.Nodes[n] != num(11) || c.Nodes[n+1] != num(12) || d.Nodes[n+1] != num(13) || len(u.Nodes) != n || len(a.Nodes) != n+1 {
		t.Error(a, b, c, d)
	}
	want := copied(a)
	for at := range u.Nodes {
		u.Nodes[at] = num(99)
	}
	if !equal(a, want) {
		t.Error("kept what was handed in")
	}
	roots := []int{n, 3, 3}
	l := term.Reach(a, roots)
	if !slices.Equal(roots, []int{n, 3, 3}) {
		t.Error("roots changed", roots)
	}
	got := slices.Clone(l)
	roots[0], roots[1] = 7, 8
	if !slices.Equal(l, got) {
		t.Error("roots kept", l)
	}
	l[0] = 70
	if again := term.Reach(a, []int{n, 3}); !slices.Equal(again, got) {
		t.Error("an answer kept", again)
	}
}

// P5.3: what is reached, rising, each once.
func TestReach(t *testing.T) {
	u := some()
	for i, c := range []struct{ roots, want []int }{
		{nil, nil},
		{[]int{}, nil},
		{[]int{0}, []int{0}},
		{[]int{1, 0, 1}, []int{0, 1}},
		{[]int{5}, []int{4, 5}},
		{[]int{8}, []int{0, 4, 5, 6, 7, 8}},
		{[]int{11}, []int{2, 3, 4, 11}},
		{[]int{19}, []int{2, 3, 4, 11, 15, 17, 18, 19}},
		{[]int{14, 5, 10}, []int{2, 3, 4, 5, 10, 14}},
		{[]int{5, 14, 10, 5}, []int{2, 3, 4, 5, 10, 14}},
		{[]int{-1, 20, 5}, []int{4, 5}},
		{far, nil},
		{append([]int{1}, far...), []int{1}},
	} {
		if l := term.Reach(u, c.roots); !slices.Equal(l, c.want) {
			t.Error(i, l)
		}
	}
	if l := term.Reach(api.Table{}, []int{0, 1}); len(l) != 0 {
		t.Error(l)
	}
}

// P5.3: how many parts, how deep.
func TestTreeDepth(t *testing.T) {
	u := some()
	parts := []int{1, 1, 1, 1, 1, 2, 4, 9, 11, 13, 3, 4, 6, 6, 1, 5, 7, 6, 13, 21}
	depths := []int{1, 1, 1, 1, 1, 2, 3, 4, 5, 6, 2, 2, 3, 3, 1, 3, 4, 4, 5, 6}
	for at := range u.Nodes {
		if n := term.Tree(u, at); n != parts[at] {
			t.Error("Tree", at, n)
		}
		if n := term.Depth(u, at); n != depths[at] {
			t.Error("Depth", at, n)
		}
	}
	for _, at := range append([]int{len(u.Nodes)}, far...) {
		if term.Tree(u, at) != 0 || term.Depth(u, at) != 0 {
			t.Error(at)
		}
	}
	if term.Tree(api.Table{}, 0) != 0 || term.Depth(api.Table{}, 0) != 0 {
		t.Error("of nothing")
	}
}

// P5.3: saturated at 2^30, met exactly and not yet met.
func TestSaturated(t *testing.T) {
	u, at := table(), 0
	for range 29 { // 2^30 - 1 parts
		u, at = put(t, u, of(api.OpAnd, at, at))
	}
	if n := term.Tree(u, at); n != 1<<30-1 {
		t.Error(n)
	}
	under := at
	for range 2 {
		u, at = put(t, u, of(api.OpNot, at)) // 2^30, and one more
		if n := term.Tree(u, at); n != 1<<30 {
			t.Error(n)
		}
	}
	for _, n := range []api.Node{of(api.OpOr, 0, under), of(api.OpOr, under, 0), of(api.OpOr, under, under), of(api.OpIte, at, at, at)} {
		u, at = put(t, u, n)
		if n := term.Tree(u, at); n != 1<<30 {
			t.Error(n)
		}
	}
	for range 100 {
		u, at = put(t, u, of(api.OpIte, at, at, at))
		if n := term.Tree(u, at); n != 1<<30 {
			t.Fatal(n)
		}
	}
	if n := term.Depth(u, at); n != 30+2+1+100 { // which has no such bound
		t.Error("Depth", n)
	}
	if n := term.Tree(u, 4); n != 15 { // below it nothing has changed
		t.Error(n)
	}
}

// P5.3 (R1): Args that are not below their own place count for nothing, and
// neither do those behind Len, in tables that may not be.
func TestStrangeTables(t *testing.T) {
	three := func(n int8, l ...int) api.Node { return api.Node{Op: api.OpIte, Len: n, Args: args(l...)} }
	u := api.Table{Nodes: []api.Node{
		three(3, 0, 1, 2),                            // 0: itself, and above
		three(3, -1, 1, 0),                           // 1: below 0, itself, 0
		three(2, 0, 1, 1),                            // 2: Len 2 of three
		three(3, 5, math.MaxInt, 1),                  // 3: above, beyond, 1
		three(9, 0, 1, 3),                            // 4: Len above MaxArgs
		three(-1, 0, 1, 3),                           // 5: Len below 0
		three(0, 4, 4, 4),                            // 6: Len 0
		{Op: 99, Len: 1, Args: args(4), Sort: -1},    // 7: a kind that is none
		{Op: api.OpNum, Len: 2, Args: args(2, 7, 7)}, // 8: more than its kind has
		three(127, 8, 8, math.MinInt),                // 9
		three(-128, 8, 8, 8),                         // 10
	}}
	reach := [][]int{{0}, {0, 1}, {0, 1, 2}, {0, 1, 3}, {0, 1, 3, 4}, {5}, {6}, {0, 1, 3, 4, 7}, {0, 1, 2, 3, 4, 7, 8}, {0, 1, 2, 3, 4, 7, 8, 9}, {10}}
	parts := []int{1, 2, 4, 3, 7, 1, 1, 8, 13, 27, 1}
	depths := []int{1, 2, 3, 3, 4, 1, 1, 5, 6, 7, 1}
	for at := range u.Nodes {
		if l := term.Reach(u, []int{at}); !slices.Equal(l, reach[at]) {
			t.Error("Reach", at, l)
		}
		if n := term.Tree(u, at); n != parts[at] {
			t.Error("Tree", at, n)
		}
		if n := term.Depth(u, at); n != depths[at] {
			t.Error("Depth", at, n)
		}
	}
	if l := term.Reach(u, []int{6, 1}); !slices.Equal(l, []int{0, 1, 6}) {
		t.Error(l)
	}
	if term.Check(u) != api.ErrArg {
		t.Error("Check")
	}
}

// R1: a chain far longer than a call may go deep.
func TestLongChain(t *testing.T) {
	const n = 3000000
	u := api.Table{Nodes: make([]api.Node, n)}
	for at := range u.Nodes {
		u.Nodes[at] = of(api.OpNot, at-1)
	}
	if got := term.Depth(u, n-1); got != n {
		t.Error("Depth", got)
	}
	if got := term.Tree(u, n-1); got != n {
		t.Error("Tree", got)
	}
	if l := term.Reach(u, []int{n - 1}); len(l) != n {
		t.Error("Reach", len(l))
	}
}

// A draw gives numbers that are alike each time.
type draw uint64

// below is a number from 0 to n - 1.
func (d *draw) below(n int) int {
	*d = *d*6364136223846793005 + 1442695040888963407
	return int(uint64(*d) >> 33 % uint64(n))
}

// often is a number from 0 to n - 1, seldom one that is not.
func (d *draw) often(n int) int {
	if d.below(60) > 0 {
		return d.below(n)
	}
	return []int{-1, n, n + 1, math.MinInt, math.MaxInt}[d.below(5)]
}

// node is one that mostly may stand at that place.
func (d *draw) node(at int) api.Node {
	n := api.Node{Op: int8(d.below(14)), Sort: d.often(6)}
	if d.below(60) == 0 {
		n.Op = int8(d.below(256) - 128)
	}
	least, most := arity(n.Op)
	n.Len = max(least, int8(d.below(int(most)+2)))
	if d.below(60) > 0 {
		n.Len = min(n.Len, most)
	}
	for i := range min(max(int(n.Len), 0), api.MaxArgs) {
		n.Args[i] = d.often(at)
	}
	switch n.Op {
	case api.OpApp:
		n.Fun = d.often(12)
	case api.OpNum, api.OpAdd, api.OpDiff:
		n.N = d.below(3) - 1
	}
	if d.below(60) == 0 {
		n.N += d.often(2)
		n.Fun += d.often(2)
	}
	return n
}

// mayStand is the chapter's sentence on nodes, read once more.
func mayStand(n api.Node, at int) bool {
	least, most := arity(n.Op)
	if most < 0 || n.Len < least || n.Len > most || n.Sort < 0 || n.Sort > 5 {
		return false
	}
	for _, a := range n.Args[:n.Len] {
		if a < 0 || a >= at {
			return false
		}
	}
	for _, a := range n.Args[n.Len:] {
		if a != 0 {
			return false
		}
	}
	if n.Op == api.OpApp && (n.Fun < 0 || n.Fun > 11) || n.Op != api.OpApp && n.Fun != 0 {
		return false
	}
	if n.Op == api.OpNum || n.Op == api.OpAdd || n.Op == api.OpDiff {
		return n.N >= -(1<<62) && n.N <= 1<<62
	}
	return n.N == 0
}

// mayBe is the chapter's sentence on tables, each node held against each.
func mayBe(l []api.Node) bool {
	if len(l) < 2 || l[0] != (api.Node{}) || l[1] != (api.Node{Op: api.OpNum, Sort: 1}) {
		return false
	}
	for at, n := range l {
		if !mayStand(n, at) || slices.Contains(l[:at], n) {
			return false
		}
	}
	return true
}

// parts and deep walk the whole tree, of a table that may be.
func parts(l []api.Node, at int) int {
	n := 1
	for _, a := range l[at].Args[:l[at].Len] {
		n += parts(l, a)
	}
	return n
}

func deep(l []api.Node, at int) int {
	n := 0
	for _, a := range l[at].Args[:l[at].Len] {
		n = max(n, deep(l, a))
	}
	return n + 1
}

// reach puts what is reached from at into m.
func reach(l []api.Node, at int, m map[int]struct{}) {
	m[at] = struct{}{}
	for _, a := range l[at].Args[:l[at].Len] {
		reach(l, a, m)
	}
}

// P5.1, P5.2: made tables held against a second reading of the chapter.
func TestMade(t *testing.T) {
	d, may := draw(1), 0
	for range 20000 {
		u := table()
		if d.below(30) == 0 {
			u.Nodes[d.below(2)] = d.node(2)
		}
		for range d.below(12) {
			n := d.node(len(u.Nodes))
			if d.below(60) == 0 || !slices.Contains(u.Nodes, n) {
				u.Nodes = append(u.Nodes, n)
			}
		}
		good := mayBe(u.Nodes)
		if (term.Check(u) == api.OK) != good {
			t.Fatal(u, good)
		}
		if good {
			may++
		}
		n, most := d.node(len(u.Nodes)), d.below(16)
		if d.below(4) == 0 {
			n = u.Nodes[d.below(len(u.Nodes))]
		}
		place, there := term.Find(u, n)
		if there != slices.Contains(u.Nodes, n) || there && slices.Index(u.Nodes, n) != place {
			t.Fatal(u, n, place, there)
		}
		want, wantAt, wantE := api.Table{}, 0, api.OK
		switch {
		case !good || !mayStand(n, len(u.Nodes)):
			wantE = api.ErrArg
		case there:
			want, wantAt = u, place
		case len(u.Nodes) >= most:
			wantE = api.ErrMany
		default:
			want, wantAt = api.Table{Nodes: append(slices.Clone(u.Nodes), n)}, len(u.Nodes)
		}
		if o, at, e := term.Put(u, n, most); !equal(o, want) || at != wantAt || e != wantE {
			t.Fatal(u, n, most, o, at, e)
		}
		cut := d.often(16)
		o, e := term.Cut(u, cut)
		if fits := good && cut >= 2 && cut <= len(u.Nodes); fits != (e == api.OK) || fits && !slices.Equal(o.Nodes, u.Nodes[:cut]) || !fits && o.Nodes != nil {
			t.Fatal(u, cut, o, e)
		}
	}
	if may < 5000 || may > 15000 {
		t.Error("too few, or too many, that may be", may)
	}
}

// P5.3, P5.4: Put again is the same place, and the same table; what is put
// behind changes no place, and nothing of what is below; what is reached from a
// place lies at most there, and holds its Args.
func TestFollows(t *testing.T) {
	d := draw(2)
	for range 400 {
		u := term.New()
		for range 14 {
			n := d.node(len(u.Nodes))
			if !mayStand(n, len(u.Nodes)) {
				continue
			}
			o, at := put(t, u, n)
			w, again, e := term.Put(o, n, 0)
			if e != api.OK || again != at || !term.Same(w, o) {
				t.Fatal(u, n, again, e)
			}
			for k, was := range u.Nodes {
				if p, ok := term.Find(o, was); !ok || p != k || o.Nodes[k] != was {
					t.Fatal("place", u, n, k)
				}
				if term.Tree(o, k) != term.Tree(u, k) || term.Depth(o, k) != term.Depth(u, k) || !slices.Equal(term.Reach(o, []int{k}), term.Reach(u, []int{k})) {
					t.Fatal("below", u, n, k)
				}
			}
			if c, e := term.Cut(o, len(u.Nodes)); e != api.OK || !term.Same(c, u) {
				t.Fatal("cut back", u, n)
			}
			u = o
		}
		holdReached(t, u, &d)
	}
}

// holdReached holds all that is told of u's places against walks of their trees.
func holdReached(t *testing.T, u api.Table, d *draw) {
	t.Helper()
	for at, n := range u.Nodes {
		if term.Tree(u, at) != parts(u.Nodes, at) || term.Depth(u, at) != deep(u.Nodes, at) {
			t.Fatal(u, at)
		}
		l := term.Reach(u, []int{at})
		if l[len(l)-1] != at {
			t.Fatal("not at most there", u, at, l)
		}
		for _, a := range n.Args[:n.Len] {
			if !slices.Contains(l, a) {
				t.Fatal("not its Args", u, at, l)
			}
		}
	}
	roots, m := []int{d.often(len(u.Nodes)), d.often(len(u.Nodes)), d.often(len(u.Nodes))}, map[int]struct{}{}
	for _, at := range roots {
		if at >= 0 && at < len(u.Nodes) {
			reach(u.Nodes, at, m)
		}
	}
	l := term.Reach(u, roots)
	if len(l) != len(m) || !slices.IsSorted(l) {
		t.Fatal(u, roots, l)
	}
	for _, at := range l {
		if _, ok := m[at]; !ok {
			t.Fatal(u, roots, l)
		}
	}
}
