package value_test

import (
	"math"
	"math/big"
	"reflect"
	"slices"
	"testing"

	"gantry/api"
	"gantry/sig"
	"gantry/value"
)

func copied(w api.World) api.World {
	w.Sizes, w.Funs = slices.Clone(w.Sizes), slices.Clone(w.Funs)
	for i := range w.Funs {
		w.Funs[i].Rows = slices.Clone(w.Funs[i].Rows)
	}
	return w
}

// flat is all that w holds, nil and empty alike.
func flat(w api.World) []int {
	l := append([]int{len(w.Sizes)}, w.Sizes...)
	for _, x := range w.Funs {
		l = append(l, len(x.Rows), x.Else)
		for _, r := range x.Rows {
			l = append(append(l, r.Args[:]...), r.Val)
		}
	}
	return l
}

// roomy is w in new memory with room behind each row, and what tells whether
// it, the room too, is as it was.
func roomy(w api.World) (api.World, func() bool) {
	w = copied(w)
	w.Sizes = append(w.Sizes, 77, 78)
	w.Funs = append(w.Funs, api.FunVal{Else: 77}, api.FunVal{Else: 78})
	for i := range w.Funs {
		w.Funs[i].Rows = append(w.Funs[i].Rows, row(77, 77, 77, 77), row(78, 78, 78, 78))
	}
	was := copied(w)
	whole := func(w api.World) api.World {
		w.Sizes, w.Funs = w.Sizes[:len(was.Sizes)], slices.Clone(w.Funs[:len(was.Funs)])
		for i := range w.Funs {
			w.Funs[i].Rows = w.Funs[i].Rows[:len(was.Funs[i].Rows)]
		}
		return w
	}
	w.Sizes, w.Funs = w.Sizes[:len(w.Sizes)-2], w.Funs[:len(w.Funs)-2]
	for i := range w.Funs {
		w.Funs[i].Rows = w.Funs[i].Rows[:len(w.Funs[i].Rows)-2]
	}
	return w, func() bool { return reflect.DeepEqual(whole(w), was) }
}

// cells are the places in memory of what w's rows hold, and may hold.
func cells(w api.World) (l []*int) {
	for i := range w.Sizes[:cap(w.Sizes)] {
		l = append(l, &w.Sizes[:cap(w.Sizes)][i])
	}
	for i := range w.Funs[:cap(w.Funs)] {
		x := &w.Funs[:cap(w.Funs)][i]
		l = append(l, &x.Else)
		for j := range x.Rows[:cap(x.Rows)] {
			l = append(l, &x.Rows[:cap(x.Rows)][j].Val)
		}
	}
	return l
}

// apart asks that no two of those worlds share memory.
func apart(t *testing.T, what any, l ...api.World) {
	t.Helper()
	seen := map[*int]bool{}
	for _, w := range l {
		for _, at := range cells(w) {
			if seen[at] {
				t.Error("memory is shared", what)
				return
			}
			seen[at] = true
		}
	}
}

// R4: what is handed in is as it was, the room behind it too; an answer shares
// no memory with it, or with another.
func TestMemory(t *testing.T) {
	g := sigma()
	g.Sorts = append(g.Sorts, "spare")[:2]
	g.Funs = append(g.Funs, api.Fun{Name: "spare"})[:k+1]
	w, kept := roomy(some())
	for _, x := range []struct {
		f, v int
		args []int
	}{{f, 0, []int{7, 1}}, {f, 0, []int{7, 2}}, {c, 0, nil}, {h, 1, []int{0, 0, 0}}, {p, 0, nil}, {k, 1, []int{5}}, {k, 2, []int{0}}} {
		l := append(x.args, 55, 66)[:len(x.args)]
		a, e := value.With(g, w, x.f, l, x.v)
		b, _ := value.With(g, w, x.f, l, x.v)
		two, _ := value.With(g, a, x.f, l, x.v)
		apart(t, x, w, a, b, two, value.Plain(g), value.Plain(g))
		if e != api.OK || !kept() || !value.Same(a, b) || !value.Same(a, two) {
			t.Error(x, e, kept())
		}
		if !slices.Equal(l[:len(l)+2], append(slices.Clone(x.args), 55, 66)) {
			t.Error("arguments", l)
		}
		was := copied(b)
		for _, at := range cells(a) {
			*at = 99
		}
		clear(l)
		if !value.Same(b, was) || !kept() {
			t.Error("kept", x)
		}
		value.With(g, w, x.f, []int{-1, -1}, x.v)
		value.With(g, w, x.f, x.args, -api.Most-1)
		value.Apply(g, w, x.f, x.args)
		value.May(g, w)
		value.Is(g, w, own, 1)
		value.Same(w, b)
		value.Text(g, own, 1)
		if !kept() || !sig.Same(g, sigma()) || g.Sorts[:3][2] != "spare" || g.Funs[:k+2][k+1].Name != "spare" {
			t.Error("changed", x)
		}
	}
}

// A draw gives numbers that are alike each time.
type draw uint64

// below is a number from 0 to n - 1.
func (d *draw) below(n int) int {
	*d = *d*6364136223846793005 + 1442695040888963407
	return int(uint64(*d) >> 33 % uint64(n))
}

func (d *draw) from(l ...int) int { return l[d.below(len(l))] }

// sig is a signature that may be.
func (d *draw) sig() (g api.Sig) {
	g.Sorts = []string{"A", "b c", "and", ""}[:d.below(5)]
	for i := range d.below(5) {
		f := api.Fun{Name: string(rune('f' + i)), Len: d.below(4), Res: d.below(own + len(g.Sorts))}
		for j := range f.Len {
			f.Args[j] = d.below(own + len(g.Sorts))
		}
		g.Funs = append(g.Funs, f)
	}
	return g
}

// value is mostly one of that sort.
func (d *draw) value(w api.World, sort int) int {
	switch {
	case d.below(300) == 0:
		return d.from(-1, 2, 3, 4, 1000, api.Most+1, -api.Most-1, math.MinInt, math.MaxInt)
	case sort == api.Bool:
		return d.below(2)
	case sort == api.Int:
		return d.from(0, 1, 2, -1, -2, api.Most, -api.Most)
	}
	return d.below(max(1, w.Sizes[sort-own]))
}

func (d *draw) args(g api.Sig, w api.World, f int) (a [api.MaxArgs]int) {
	for i := range g.Funs[f].Len {
		a[i] = d.value(w, g.Funs[f].Args[i])
	}
	if d.below(300) == 0 {
		a[2]++
	}
	return a
}

// world is one that may often be of g.
func (d *draw) world(g api.Sig) (w api.World) {
	for range g.Sorts {
		w.Sizes = append(w.Sizes, d.from(1, 1, 2, 3, 3, 3, 1000, 1000))
	}
	if d.below(40) == 0 && len(w.Sizes) > 0 {
		w.Sizes[d.below(len(w.Sizes))] = d.from(0, -1, 1001, math.MaxInt)
	}
	for f := range g.Funs {
		x := api.FunVal{Else: d.value(w, g.Funs[f].Res)}
		for range d.below(4) {
			a := d.args(g, w, f)
			if d.below(20) == 0 || !slices.ContainsFunc(x.Rows, func(r api.Row) bool { return r.Args == a }) {
				x.Rows = append(x.Rows, api.Row{Args: a, Val: d.value(w, g.Funs[f].Res)})
			}
		}
		w.Funs = append(w.Funs, x)
	}
	return w
}

// is is Is, as the chapter's words say it.
func is(g api.Sig, w api.World, sort, v int) bool {
	least, most := new(big.Int), new(big.Int)
	switch {
	case len(w.Sizes) != len(g.Sorts) || sort < 0 || sort >= own+len(g.Sorts):
		return false
	case sort == api.Bool:
		most.SetInt64(1)
	case sort == api.Int:
		most.Lsh(big.NewInt(1), 62)
		least.Neg(most)
	default:
		most.Sub(big.NewInt(int64(w.Sizes[sort-own])), big.NewInt(1))
	}
	n := big.NewInt(int64(v))
	return n.Cmp(least) >= 0 && n.Cmp(most) <= 0
}

// areArgs tells whether a are values of f's arguments' sorts, the rest 0.
func areArgs(g api.Sig, w api.World, f int, a []int) bool {
	for i, v := range a {
		if i < g.Funs[f].Len {
			if !is(g, w, g.Funs[f].Args[i], v) {
				return false
			}
		} else if v != 0 {
			return false
		}
	}
	return true
}

// may is May, as the chapter's words say it, of a signature that may be.
func may(g api.Sig, w api.World) bool {
	ok := len(w.Sizes) == len(g.Sorts) && len(w.Funs) == len(g.Funs)
	for _, n := range w.Sizes {
		ok = ok && 1 <= n && n <= 1000
	}
	for f, x := range w.Funs {
		ok = ok && len(x.Rows) <= 400 && is(g, w, g.Funs[f].Res, x.Else)
		for i, r := range x.Rows {
			ok = ok && areArgs(g, w, f, r.Args[:]) && is(g, w, g.Funs[f].Res, r.Val)
			for _, s := range x.Rows[:i] {
				ok = ok && s.Args != r.Args
			}
		}
	}
	return ok
}

// apply is Apply, as the chapter's words say it, and the place of the row, or
// that behind.
func apply(g api.Sig, w api.World, f int, l []int) (v, at int, e api.Errno) {
	switch {
	case !may(g, w) || f < 0 || f >= len(g.Funs) || len(l) != g.Funs[f].Len:
		return 0, 0, api.ErrArg
	case !areArgs(g, w, f, l):
		return 0, 0, api.ErrSort
	}
	x := w.Funs[f]
	for i, r := range x.Rows {
		if slices.Equal(r.Args[:len(l)], l) {
			return r.Val, i, api.OK
		}
	}
	return x.Else, len(x.Rows), api.OK
}

// changed is With, as the chapter's words say it.
func changed(g api.Sig, w api.World, f int, l []int, v int) (api.World, api.Errno) {
	_, at, e := apply(g, w, f, l)
	switch {
	case e != api.OK:
		return api.World{}, e
	case !is(g, w, g.Funs[f].Res, v):
		return api.World{}, api.ErrSort
	case at >= 400:
		return api.World{}, api.ErrArg
	}
	o := copied(w)
	if at == len(o.Funs[f].Rows) {
		o.Funs[f].Rows = append(o.Funs[f].Rows, api.Row{Args: args(l...)})
	}
	o.Funs[f].Rows[at].Val = v
	return o, api.OK
}

// held asks all calls of g and w, with those arguments, and tells whether With
// answered a world.
func held(t *testing.T, g api.Sig, w api.World, f int, l []int, v int) bool {
	t.Helper()
	if value.May(g, w) != may(g, w) {
		t.Fatal("May", g, w)
	}
	for sort := -1; sort <= own+len(g.Sorts); sort++ {
		for _, n := range []int{v, -1, 0, 1, 2, 3, 999, 1000, 1001} {
			if value.Is(g, w, sort, n) != is(g, w, sort, n) {
				t.Fatal("Is", g, w, sort, n)
			}
		}
	}
	got, e := value.Apply(g, w, f, l)
	if want, _, e1 := apply(g, w, f, l); got != want || e != e1 {
		t.Fatal("Apply", g, w, f, l, got, e)
	}
	o, e := value.With(g, w, f, l, v)
	if want, e1 := changed(g, w, f, l, v); !value.Same(o, want) || !slices.Equal(flat(o), flat(want)) || e != e1 {
		t.Fatal("With", g, w, f, l, v, o, e)
	}
	return e == api.OK
}

// P9.1, P9.2: made worlds, held against the words.
func TestMade(t *testing.T) {
	d := draw(9)
	count := map[bool]int{}
	for range 20000 {
		g := d.sig()
		w := d.world(g)
		n := len(g.Funs)
		f, l, v := d.below(n+1), make([]int, d.below(4)), d.value(w, api.Int)
		if f < n && d.below(10) > 0 {
			a := d.args(g, w, f)
			l, v = a[:g.Funs[f].Len], d.value(w, g.Funs[f].Res)
		}
		count[held(t, g, w, f, l, v)]++
		if d.below(20) == 0 {
			held(t, d.sig(), w, f, l, v)
		}
	}
	if count[false] < 2000 || count[true] < 2000 {
		t.Error(count)
	}
}

// table is all arguments of small values that function f has, and what it is in
// w for each.
func table(t *testing.T, g api.Sig, w api.World, f int) (l [][]int, vals []int) {
	t.Helper()
	l = [][]int{{}}
	for i := range g.Funs[f].Len {
		var more [][]int
		for _, a := range l {
			for _, v := range []int{-1, 0, 1, 2} {
				if value.Is(g, w, g.Funs[f].Args[i], v) {
					more = append(more, append(slices.Clone(a), v))
				}
			}
		}
		l = more
	}
	for _, a := range l {
		v, e := value.Apply(g, w, f, a)
		if e != api.OK || !value.Is(g, w, g.Funs[f].Res, v) {
			t.Fatal(g, w, f, a, v, e)
		}
		vals = append(vals, v)
	}
	return l, vals
}

// P9.4: Apply of With is v there, and what it was elsewhere; what With answers
// may be, as what is plain may.
func TestFollows(t *testing.T) {
	d := draw(4)
	for range 400 {
		g := d.sig()
		w := value.Plain(g)
		for i := range w.Sizes {
			w.Sizes[i] = 1 + d.below(3)
		}
		for range 6 * len(g.Funs) {
			at := d.below(len(g.Funs))
			l, was := table(t, g, w, at)
			i, v := d.below(len(l)), d.value(w, g.Funs[at].Res)
			o, e := value.With(g, w, at, l[i], v)
			if e != api.OK {
				if e != api.ErrSort || value.Is(g, w, g.Funs[at].Res, v) {
					t.Fatal(g, w, at, l[i], v, e)
				}
				continue
			}
			if !value.May(g, o) {
				t.Fatal("may not be", g, w, at, l[i], v, o)
			}
			was[i] = v
			for f := range g.Funs {
				_, now := table(t, g, o, f)
				if f != at {
					_, was := table(t, g, w, f)
					if !slices.Equal(was, now) {
						t.Fatal("another", g, w, at, l[i], v, o)
					}
				} else if !slices.Equal(was, now) {
					t.Fatal(g, w, at, l[i], v, o, was, now)
				}
			}
			w = o
		}
	}
}

// R1: whatever is handed in, all calls end.
func TestStrange(t *testing.T) {
	loop := api.Sexp{Kind: api.SxList, L: make([]api.Sexp, 2)}
	loop.L[1] = loop
	endless := sigma()
	endless.Macros = []api.Macro{{Name: "m", Body: loop}}
	for _, g := range append(strange(), endless, api.Sig{}, api.Sig{Sorts: make([]string, 99), Funs: make([]api.Fun, 99), Macros: make([]api.Macro, 99)}) {
		for _, w := range append(wrong(), some(), api.World{}, value.Plain(g)) {
			for _, n := range append([]int{-1, 0, 1, 98}, far...) {
				value.Is(g, w, n, n)
				value.Text(g, n, n)
				for _, l := range [][]int{nil, {n}, {n, n}, {n, n, n}, make([]int, 99)} {
					value.Apply(g, w, n, l)
					value.With(g, w, n, l, n)
				}
			}
			value.May(g, w)
			value.Same(w, some())
		}
	}
	if value.May(endless, some()) {
		t.Error("a signature that may not be")
	}
}
