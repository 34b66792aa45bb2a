package offset_test

import (
	"math"
	"math/big"
	"slices"
	"testing"

	"gantry/api"
	"gantry/eval"
	"gantry/offset"
	"gantry/term"
	"gantry/typing"
	"gantry/value"
)

func whole(n int) *big.Int { return big.NewInt(int64(n)) }

// may tells whether n is a number that may be.
func may(n *big.Int) bool { return n.CmpAbs(whole(most)) <= 0 }

// An answer is what a call answers: a table's nodes, a place or a base, the
// other base, a number, whether it is a difference.
type answer struct {
	t  []api.Node
	at int
	y  int
	n  int
	is bool
	e  api.Errno
}

func (a answer) same(b answer) bool {
	return a.at == b.at && a.y == b.y && a.n == b.n && a.is == b.is && a.e == b.e && slices.Equal(a.t, b.t)
}

// A reading is what the chapter's words say of a table; nil of one that may
// not be.
type reading []api.Node

func read(u api.Table) reading {
	if term.Check(u) != api.OK {
		return nil
	}
	return u.Nodes
}

func (l reading) base(id int) int {
	switch l[id].Op {
	case api.OpNum:
		return api.Zero
	case api.OpAdd:
		return l.base(l[id].Args[0])
	}
	return id
}

// numbers are those that are put together, from the node on.
func (l reading) numbers(id int) []int {
	switch n := l[id]; n.Op {
	case api.OpNum:
		return []int{n.N}
	case api.OpAdd:
		return append([]int{n.N}, l.numbers(n.Args[0])...)
	}
	return nil
}

func (l reading) of(id int) answer {
	if l == nil || id < 0 || id >= len(l) {
		return answer{e: api.ErrArg}
	}
	if l[id].Sort != api.Int {
		return answer{e: api.ErrSort}
	}
	sum := new(big.Int)
	for _, n := range l.numbers(id) {
		if !may(sum.Add(sum, whole(n))) {
			return answer{e: api.ErrOver}
		}
	}
	return answer{at: l.base(id), n: int(sum.Int64())}
}

// behind is what comes of putting n.
func (l reading) behind(n api.Node, room int) answer {
	if at := slices.Index(l, n); at >= 0 {
		return answer{t: l, at: at}
	}
	if len(l) >= room {
		return answer{e: api.ErrMany}
	}
	return answer{t: append(slices.Clone(l), n), at: len(l)}
}

func (l reading) put(base, n, room int) answer {
	o := l.of(base)
	switch {
	case o.e != api.OK:
		return answer{e: o.e}
	case o.at != base:
		return answer{e: api.ErrArg}
	case !may(whole(n)):
		return answer{e: api.ErrOver}
	case base == api.Zero:
		return l.behind(number(n), room)
	case n == 0:
		return answer{t: l, at: base}
	}
	return l.behind(plus(base, n), room)
}

func (l reading) add(id, n, room int) answer {
	o := l.of(id)
	if o.e != api.OK {
		return answer{e: o.e}
	}
	sum := new(big.Int).Add(whole(o.n), whole(n))
	if !may(whole(n)) || !may(sum) {
		return answer{e: api.ErrOver}
	}
	return l.put(o.at, int(sum.Int64()), room)
}

func (l reading) diff(a, b, c int) answer {
	x, y := l.of(a), l.of(b)
	for _, o := range []answer{x, y} {
		if o.e != api.OK {
			return answer{e: o.e}
		}
	}
	one := new(big.Int).Sub(whole(c), whole(x.n))
	two := new(big.Int).Add(one, whole(y.n))
	if !may(whole(c)) || !may(one) || !may(two) {
		return answer{e: api.ErrOver}
	}
	return answer{at: x.at, y: y.at, n: int(two.Int64())}
}

func (l reading) le(a, b, c, room int) answer {
	d := l.diff(a, b, c)
	switch {
	case d.e != api.OK:
		return answer{e: d.e}
	case d.at == d.y && d.n >= 0:
		return answer{t: l, at: api.True}
	case d.at == d.y:
		return l.behind(not(api.True), room)
	}
	o := l.behind(less(d.at, d.y, d.n), room)
	o.is = o.e == api.OK
	return o
}

func (l reading) ordered() bool {
	for _, n := range l {
		if n.Op == api.OpAdd && (n.N == 0 || slices.Contains([]int8{api.OpAdd, api.OpNum}, l[n.Args[0]].Op)) {
			return false
		}
	}
	return l != nil
}

// The calls, as answers.

func ofAnswer(u api.Table, id int) (a answer) {
	a.at, a.n, a.e = offset.Of(u, id)
	return a
}

func putAnswer(u api.Table, base, n, room int) answer {
	o, at, e := offset.Put(u, base, n, room)
	return answer{t: o.Nodes, at: at, e: e}
}

func addAnswer(u api.Table, id, n, room int) answer {
	o, at, e := offset.Add(u, id, n, room)
	return answer{t: o.Nodes, at: at, e: e}
}

func diffAnswer(u api.Table, a, b, c int) (o answer) {
	o.at, o.y, o.n, o.e = offset.Diff(u, a, b, c)
	return o
}

func leAnswer(u api.Table, a, b, c, room int) answer {
	o, at, is, e := offset.Le(u, a, b, c, room)
	return answer{t: o.Nodes, at: at, is: is, e: e}
}

// A draw gives numbers that are alike each time.
type draw uint64

// below is a number from 0 to n - 1.
func (d *draw) below(n int) int {
	*d = *d*6364136223846793005 + 1442695040888963407
	return int(uint64(*d) >> 33 % uint64(n))
}

func (d *draw) from(l ...int) int { return l[d.below(len(l))] }

// number is one that may be.
func (d *draw) number() int {
	if d.below(3) > 0 {
		return d.below(5) - 2
	}
	return d.from(most, -most, most-1, 1-most, most-2, 1<<61, -1<<61, 1<<61+1, 3<<60)
}

// any is a number, seldom one that may not be.
func (d *draw) any() int {
	if d.below(12) == 0 {
		return d.from(beyond...)
	}
	return d.number()
}

// place is a place of u, rather a great one, seldom none.
func (d *draw) place(u api.Table) int {
	if d.below(25) == 0 {
		return d.from(append([]int{len(u.Nodes)}, far...)...)
	}
	return len(u.Nodes) - 1 - min(d.below(len(u.Nodes)), d.below(len(u.Nodes)))
}

// node is one that may mostly stand behind u, whatever its Args' sorts are.
func (d *draw) node(u api.Table) api.Node {
	n := plus(d.place(u), d.number())
	switch d.below(9) {
	case 0:
		n = app(d.below(3), api.Int)
	case 1:
		n = app(3, d.below(4))
	case 2:
		n = app(4, api.Int, d.place(u))
	case 3:
		n = number(d.number())
	case 4:
		n = less(d.place(u), d.place(u), d.number())
	case 5:
		n = not(d.place(u))
	}
	if d.below(20) == 0 {
		n.Sort = d.from(-1, 0, 1, 2, 5, 6)
	}
	return n
}

// table is one that mostly may be, with about that many nodes.
func (d *draw) table(n int) api.Table {
	u := term.New()
	for range n {
		if o, _, e := term.Put(u, d.node(u), 99); e == api.OK {
			u = o
		}
	}
	if d.below(12) == 0 {
		u.Nodes[d.below(len(u.Nodes))] = d.node(u)
	}
	return u
}

// A count is how often something came about.
type count map[string]int

func (c count) note(t *testing.T, what string, u api.Table, got, want answer, asked ...int) {
	t.Helper()
	if !got.same(want) {
		t.Fatal(what, asked, u, got, "not", want)
	}
	c[what+want.e.Error()]++
}

// P11.1, P11.2, P11.3: made tables held against a second reading of the chapter.
func TestWords(t *testing.T) {
	d, seen := draw(1), count{}
	for range 3000 {
		u := d.table(3 + d.below(14))
		l := read(u)
		if offset.Ordered(u) != l.ordered() {
			t.Fatal("Ordered", u)
		}
		for id := -1; id <= len(u.Nodes); id++ {
			seen.note(t, "Of ", u, ofAnswer(u, id), l.of(id), id)
		}
		for range 12 {
			a, b, n := d.place(u), d.place(u), d.any()
			room := len(u.Nodes) + 2 - d.below(4)
			seen.note(t, "Put ", u, putAnswer(u, a, n, room), l.put(a, n, room), a, n, room)
			seen.note(t, "Add ", u, addAnswer(u, a, n, room), l.add(a, n, room), a, n, room)
			seen.note(t, "Diff ", u, diffAnswer(u, a, b, n), l.diff(a, b, n), a, b, n)
			seen.note(t, "Le ", u, leAnswer(u, a, b, n, room), l.le(a, b, n, room), a, b, n, room)
		}
	}
	for _, what := range []string{"Of ", "Put ", "Add ", "Diff ", "Le "} {
		for _, e := range []api.Errno{api.OK, api.ErrArg, api.ErrSort, api.ErrOver} {
			if n := seen[what+e.Error()]; n < 200 {
				t.Error("too few", what, e, n)
			}
		}
		if n := seen[what+api.ErrMany.Error()]; (n > 200) != slices.Contains([]string{"Put ", "Add ", "Le "}, what) {
			t.Error("ErrMany", what, n)
		}
	}
}

// P11.4: Of Put is the base and the offset; what is in order stays so.
func TestFollows(t *testing.T) {
	d, seen := draw(2), count{}
	for range 8000 {
		u := d.table(2 + d.below(10))
		in := offset.Ordered(u)
		a, b, n := d.place(u), d.place(u), d.number()
		stays := func(what string, o api.Table, e api.Errno) bool {
			t.Helper()
			if e == api.OK && in {
				seen[what]++
				if !offset.Ordered(o) {
					t.Fatal(what, u, a, b, n)
				}
			}
			return e == api.OK
		}
		o, at, e := offset.Put(u, a, n, 99)
		if stays("Put", o, e) {
			isOf(t, o, at, a, n)
		}
		o, _, e = offset.Add(u, a, n, 99)
		stays("Add", o, e)
		o, _, _, e = offset.Le(u, a, b, n, 99)
		stays("Le", o, e)
	}
	if seen["Put"] < 500 || seen["Add"] < 500 || seen["Le"] < 500 {
		t.Error("too few", seen)
	}
}

// P11.4: Add of Add is one Add.
func TestAddsInOne(t *testing.T) {
	d, seen := draw(4), 0
	for range 8000 {
		u := d.table(2 + d.below(10))
		a, n, k := d.place(u), d.number(), d.number()
		o, at, e := offset.Add(u, a, n, 99)
		if e != api.OK || !may(new(big.Int).Add(whole(n), whole(k))) {
			continue
		}
		two, at, e := offset.Add(o, at, k, 99)
		one, id, oneE := offset.Add(u, a, n+k, 99)
		if e != oneE {
			t.Fatal(u, a, n, k, e, oneE)
		}
		if e == api.OK {
			seen++
			if two.Nodes[at] != one.Nodes[id] {
				t.Fatal(u, a, n, k, two.Nodes[at], one.Nodes[id])
			}
		}
	}
	if seen < 500 {
		t.Error("too few", seen)
	}
}

// sigma is the signature of the tables that are well sorted.
func sigma() api.Sig {
	return api.Sig{Sorts: []string{"S"}, Funs: []api.Fun{
		{Name: "x", Res: api.Int},
		{Name: "y", Res: api.Int},
		{Name: "z", Res: api.Int},
		{Name: "p", Res: api.Bool},
		{Name: "f", Len: 1, Args: args(api.Int), Res: api.Int},
	}}
}

// world is one that may be of sigma.
func (d *draw) world() api.World {
	w := value.Plain(sigma())
	for f := range w.Funs {
		w.Funs[f].Else = d.number()
	}
	w.Funs[3].Else = d.below(2)
	w.Funs[4].Rows = []api.Row{{Args: args(d.number()), Val: d.number()}}
	return w
}

// sorts is a table that is well sorted under sigma, of about n nodes.
func (d *draw) sorts(n int) api.Table {
	u := term.New()
	for f := range 4 {
		u, _, _ = term.Put(u, app(f, sigma().Funs[f].Res), 99)
	}
	for range n {
		x, e := d.node(u), api.OK
		switch d.below(4) {
		case 0:
			x, e = typing.Make(sigma(), u, api.OpIte, []int{5, d.place(u), d.place(u)}, 0, 0)
		case 1:
			x, e = typing.Make(sigma(), u, api.OpAdd, []int{d.place(u)}, 0, d.number())
		}
		if e == api.OK && typing.Node(sigma(), u, x) == api.OK {
			u, _, _ = term.Put(u, x, 99)
		}
	}
	return u
}

// values are what u's nodes are in w.
func values(t *testing.T, w api.World, u api.Table) ([]int, []bool) {
	t.Helper()
	l, over, e := eval.Values(sigma(), w, u)
	if e != api.OK {
		t.Fatal(u, e)
	}
	return l, over
}

// near is a number, often one by which two of these values just differ.
func (d *draw) near(a, b int) int {
	c := new(big.Int).Sub(whole(a), whole(b))
	c.Add(c, whole(d.below(4)-2))
	if may(c) && d.below(2) == 0 {
		return int(c.Int64())
	}
	return d.number()
}

// P11.4: where nothing overflows a difference holds in a world just if the
// values differ by at most c.
func TestInWorlds(t *testing.T) {
	d, seen := draw(3), map[[2]bool]int{}
	for range 3000 {
		u, w := d.sorts(12), d.world()
		l, over := values(t, w, u)
		for range 10 {
			a, b := d.place(u), d.place(u)
			if max(a, b) >= len(l) || min(a, b) < 0 || over[a] || over[b] {
				continue
			}
			c := d.near(l[a], l[b])
			o, id, is, e := offset.Le(u, a, b, c, 99)
			if e != api.OK {
				continue
			}
			got, _ := values(t, w, o)
			holds := eval.AtMost(l[a], l[b], c)
			if (got[id] == 1) != holds || is != (o.Nodes[id].Op == api.OpDiff) {
				t.Fatal(u, w, a, b, c, got[id], holds, is)
			}
			seen[[2]bool{is, holds}]++
		}
		holdValue(t, &d, w, u, l, over)
	}
	for _, k := range [][2]bool{{false, false}, {false, true}, {true, false}, {true, true}} {
		if seen[k] < 300 {
			t.Error("too few", k, seen[k])
		}
	}
}

// holdValue holds the value of what Add puts against the sum's.
func holdValue(t *testing.T, d *draw, w api.World, u api.Table, l []int, over []bool) {
	t.Helper()
	a, n := d.place(u), d.number()
	o, id, e := offset.Add(u, a, n, 99)
	if e != api.OK || over[a] {
		return
	}
	got, gone := values(t, w, o)
	sum := new(big.Int).Add(whole(l[a]), whole(n))
	if gone[id] != !may(sum) || !gone[id] && whole(got[id]).Cmp(sum) != 0 {
		t.Fatal(u, w, a, n, got[id], gone[id])
	}
}

// R1, R2: each call ends, and beside an error nothing is told, whatever places,
// numbers and rooms it is given.
func TestWhatever(t *testing.T) {
	places := append([]int{0, 1, x, x12, end - 1, end}, far...)
	numbers := append([]int{0, 1, -1, most, -most}, beyond...)
	tables := append(strange(), base(), term.New())
	for _, u := range tables {
		l := read(u)
		for _, a := range places {
			for i, n := range numbers {
				b := places[(a&15+i)%len(places)]
				for _, room := range []int{math.MinInt, 0, 99, math.MaxInt} {
					if !putAnswer(u, a, n, room).same(l.put(a, n, room)) || !addAnswer(u, a, n, room).same(l.add(a, n, room)) ||
						!diffAnswer(u, a, b, n).same(l.diff(a, b, n)) || !leAnswer(u, a, b, n, room).same(l.le(a, b, n, room)) {
						t.Fatal(u, a, b, n, room)
					}
				}
			}
		}
	}
}
