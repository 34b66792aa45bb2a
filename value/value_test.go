package value_test

import (
	"math"
	"reflect"
	"slices"
	"strconv"
	"strings"
	"testing"

	"gantry/api"
	"gantry/value"
)

const (
	own   = api.Own // S
	other = own + 1 // a b
)

// The functions of sigma.
const (
	f = iota // of an Int and an S, to Bool
	c        // an S
	h        // of a Bool, an a b and an Int, to Int
	p        // a Bool
	k        // of an a b, to an a b
)

// far are numbers that are far from any sort's, function's or value's.
var far = []int{math.MinInt, math.MinInt + 1, math.MaxInt - 1, math.MaxInt}

func args(l ...int) (a [api.MaxArgs]int) {
	copy(a[:], l)
	return a
}

func row(v int, l ...int) api.Row { return api.Row{Args: args(l...), Val: v} }

func sigma() api.Sig {
	return api.Sig{Sorts: []string{"S", "a b"}, Funs: []api.Fun{
		f: {Name: "f", Len: 2, Args: args(api.Int, own), Res: api.Bool},
		c: {Name: "c", Res: own},
		h: {Name: "h", Len: 3, Args: args(api.Bool, other, api.Int), Res: api.Int},
		p: {Name: "p", Res: api.Bool},
		k: {Name: "k", Len: 1, Args: args(other), Res: other},
	}}
}

// some is a world of sigma with something of all.
func some() api.World {
	return api.World{Sizes: []int{3, 1000}, Funs: []api.FunVal{
		f: {Rows: []api.Row{row(1, -5, 2), row(0, 7, 0), row(1, 7, 1)}, Else: 1},
		c: {Rows: []api.Row{row(2)}, Else: 1},
		h: {Rows: []api.Row{row(-9, 1, 999, -api.Most), row(api.Most, 0, 0, api.Most)}, Else: -api.Most},
		p: {Else: 1},
		k: {Rows: []api.Row{row(0, 999), row(999, 0)}, Else: 998},
	}}
}

// with is some(), changed.
func with(change func(*api.World)) api.World {
	w := some()
	change(&w)
	return w
}

// full is some() with n rows of f, of numbers from 0 on.
func full(n int) api.World {
	return with(func(w *api.World) {
		w.Funs[f].Rows = nil
		for i := range n {
			w.Funs[f].Rows = append(w.Funs[f].Rows, row(i%2, i, i%3))
		}
	})
}

// strange are signatures that may not be; sigma's functions are there where
// that may be.
func strange() []api.Sig {
	var l []api.Sig
	for _, change := range []func(*api.Sig){
		func(g *api.Sig) { g.Sorts[1] = "S" },
		func(g *api.Sig) { g.Sorts[1] = "Int" },
		func(g *api.Sig) { g.Sorts[0] = "let" },
		func(g *api.Sig) { g.Sorts[0] = "a|b" },
		func(g *api.Sig) { g.Funs[p].Name = "f" },
		func(g *api.Sig) { g.Funs[p].Name = "and" },
		func(g *api.Sig) { g.Funs[p].Len = -1 },
		func(g *api.Sig) { g.Funs[p].Len = 4 },
		func(g *api.Sig) { g.Funs[p].Args[0] = 1 },
		func(g *api.Sig) { g.Funs[c].Res = other + 1 },
		func(g *api.Sig) { g.Funs[k].Args[0] = -1 },
		func(g *api.Sig) { g.Macros = []api.Macro{{Name: "f", Body: api.Sexp{Text: "true"}}} },
		func(g *api.Sig) { g.Macros = []api.Macro{{Name: "m", Body: api.Sexp{Kind: 9}}} },
	} {
		g := sigma()
		change(&g)
		l = append(l, g)
	}
	return l
}

// P9.1: each sort's values, at their bounds and one past them.
func TestIs(t *testing.T) {
	w := some()
	w.Sizes = []int{3, 1}
	for _, x := range []struct {
		sort int
		is   []int
		not  []int
	}{
		{api.Bool, []int{0, 1}, []int{-1, 2, 3}},
		{api.Int, []int{0, 1, -1, 2, 1000, api.Most, -api.Most}, []int{api.Most + 1, -api.Most - 1}},
		{own, []int{0, 1, 2}, []int{-1, 3, 4, 1000}},
		{other, []int{0}, []int{-1, 1, 2, 3}},
		{other + 1, nil, []int{-1, 0, 1}},
		{other + 2, nil, []int{-1, 0, 1}},
		{-1, nil, []int{-1, 0, 1}},
		{-2, nil, []int{-1, 0, 1}},
		{math.MaxInt, nil, []int{-1, 0, 1}},
		{math.MinInt, nil, []int{-1, 0, 1}},
	} {
		for _, v := range x.is {
			if !value.Is(sigma(), w, x.sort, v) {
				t.Error(x.sort, v)
			}
		}
		for _, v := range append(x.not, far...) {
			if value.Is(sigma(), w, x.sort, v) {
				t.Error("none", x.sort, v)
			}
		}
	}
}

// P9.1: worlds of other signatures have no values of any sort; else only their
// Sizes are asked, whatever they are.
func TestIsSizes(t *testing.T) {
	for _, x := range []struct {
		g    api.Sig
		l    []int
		ours bool
	}{
		{sigma(), []int{2, 2}, true},
		{sigma(), []int{2}, false},
		{sigma(), []int{2, 2, 2}, false},
		{sigma(), nil, false},
		{api.Sig{}, nil, true},
		{api.Sig{}, []int{}, true},
		{api.Sig{}, []int{2}, false},
		{api.Sig{Sorts: []string{"let", "let", "Int", "a|b", "S", "T"}}, []int{2, 2, 2, 2, 2, 2}, true},
		{api.Sig{Sorts: []string{"let", "let", "Int", "a|b", "S", "T"}}, []int{2, 2, 2, 2, 2}, false},
	} {
		for s := range own + 9 {
			is := x.ours && s < own+len(x.l)
			w := api.World{Sizes: x.l}
			if value.Is(x.g, w, s, 0) != is || value.Is(x.g, w, s, 1) != is || value.Is(x.g, w, s, 2) != (is && s == api.Int) {
				t.Error(x, s)
			}
		}
	}
	for n, most := range map[int]int{-1: -1, 0: -1, math.MinInt: -1, 1: 0, 1000: 999, 1001: 1000, math.MaxInt: math.MaxInt - 1} {
		w := api.World{Sizes: []int{1, n}}
		for _, v := range append([]int{-1, 0, 1, n - 1, n, most, most + 1}, far...) {
			if value.Is(sigma(), w, other, v) != (v >= 0 && v <= most) {
				t.Error(n, v)
			}
		}
	}
}

// P9.1: what may be, with each bound met exactly.
func TestMay(t *testing.T) {
	for i, x := range []struct {
		g api.Sig
		w api.World
	}{
		{api.Sig{}, api.World{}},
		{api.Sig{}, api.World{Sizes: []int{}, Funs: []api.FunVal{}}},
		{api.Sig{Macros: []api.Macro{{Name: "m", Body: api.Sexp{Text: "true"}}}}, api.World{}},
		{sigma(), some()},
		{sigma(), with(func(w *api.World) { w.Sizes[0] = 1000 })},
		{sigma(), with(func(w *api.World) { w.Funs[f].Rows = []api.Row{} })},
		{sigma(), with(func(w *api.World) { w.Funs[f].Rows[0] = row(1, api.Most, 2) })},
		{sigma(), with(func(w *api.World) { w.Funs[f].Rows[0] = row(1, -api.Most, 2) })},
		{sigma(), with(func(w *api.World) { w.Funs[h].Else = api.Most })},
		{sigma(), with(func(w *api.World) { w.Funs[k] = api.FunVal{}; w.Funs[h].Rows[0].Args[1] = 0; w.Sizes[1] = 1 })},
		{sigma(), with(func(w *api.World) { w.Funs[p] = api.FunVal{Rows: []api.Row{row(1)}} })},
		{sigma(), full(399)},
		{sigma(), full(400)},
	} {
		if !value.May(x.g, x.w) {
			t.Error(i, x.w)
		}
	}
}

// wrong are worlds that may not be of sigma.
func wrong() []api.World {
	l := []api.World{{}, full(401), full(500)}
	for _, change := range []func(*api.World){
		func(w *api.World) { w.Sizes = nil },
		func(w *api.World) { w.Sizes = w.Sizes[:1] },
		func(w *api.World) { w.Sizes = append(w.Sizes, 1) },
		func(w *api.World) { w.Sizes[0] = 0 },
		func(w *api.World) { w.Sizes[0] = -1 },
		func(w *api.World) { w.Sizes[0] = 2 }, // f has a row of 2
		func(w *api.World) { w.Sizes[0] = 1001 },
		func(w *api.World) { w.Sizes[1] = 999 },
		func(w *api.World) { w.Sizes[1] = 1001 },
		func(w *api.World) { w.Sizes[1] = math.MaxInt },
		func(w *api.World) { w.Sizes[1] = math.MinInt },
		func(w *api.World) { w.Sizes[0], w.Sizes[1] = w.Sizes[1], w.Sizes[0] },
		func(w *api.World) { w.Funs = nil },
		func(w *api.World) { w.Funs = w.Funs[:k] },
		func(w *api.World) { w.Funs = append(w.Funs, api.FunVal{}) },
		func(w *api.World) { w.Funs[f], w.Funs[h] = w.Funs[h], w.Funs[f] },
		// Args: none of their sorts, below 0, behind the last one
		func(w *api.World) { w.Funs[f].Rows[0].Args[0] = api.Most + 1 },
		func(w *api.World) { w.Funs[f].Rows[0].Args[0] = -api.Most - 1 },
		func(w *api.World) { w.Funs[f].Rows[0].Args[1] = 3 },
		func(w *api.World) { w.Funs[f].Rows[0].Args[1] = -1 },
		func(w *api.World) { w.Funs[f].Rows[2].Args[1] = 3 },
		func(w *api.World) { w.Funs[f].Rows[0].Args[2] = 1 },
		func(w *api.World) { w.Funs[f].Rows[0].Args[2] = -1 },
		func(w *api.World) { w.Funs[c].Rows[0].Args[0] = 1 },
		func(w *api.World) { w.Funs[h].Rows[0].Args[0] = 2 },
		func(w *api.World) { w.Funs[h].Rows[0].Args[1] = 1000 },
		func(w *api.World) { w.Funs[h].Rows[0].Args[2]-- },
		func(w *api.World) { w.Funs[h].Rows[1].Args[2]++ },
		func(w *api.World) { w.Funs[k].Rows[0].Args[1] = 1 },
		// Val, Else
		func(w *api.World) { w.Funs[f].Rows[1].Val = 2 },
		func(w *api.World) { w.Funs[f].Rows[1].Val = -1 },
		func(w *api.World) { w.Funs[c].Rows[0].Val = 3 },
		func(w *api.World) { w.Funs[h].Rows[1].Val++ },
		func(w *api.World) { w.Funs[k].Rows[1].Val = 1000 },
		func(w *api.World) { w.Funs[f].Else = 2 },
		func(w *api.World) { w.Funs[f].Else = -1 },
		func(w *api.World) { w.Funs[c].Else = 3 },
		func(w *api.World) { w.Funs[h].Else-- },
		func(w *api.World) { w.Funs[p].Else = 2 },
		func(w *api.World) { w.Funs[k].Else = 1000 },
		// twice the same Args, whatever Val
		func(w *api.World) { w.Funs[f].Rows[0] = w.Funs[f].Rows[1] },
		func(w *api.World) { w.Funs[f].Rows[2] = row(1, 7, 0) },
		func(w *api.World) { w.Funs[f].Rows = append(w.Funs[f].Rows, row(0, -5, 2)) },
		func(w *api.World) { w.Funs[c].Rows = append(w.Funs[c].Rows, row(1)) },
	} {
		l = append(l, with(change))
	}
	return l
}

// P9.1: each bound passed by one, and what is not of the signature; a signature
// that may not be has no world, not its plain one either.
func TestMayWrong(t *testing.T) {
	for i, w := range wrong() {
		if value.May(sigma(), w) {
			t.Error(i, w)
		}
	}
	for i, g := range strange() {
		if value.May(g, some()) || value.May(g, value.Plain(g)) {
			t.Error(i, g)
		}
	}
	for _, g := range []api.Sig{
		{Sorts: []string{"A", "B", "C", "D", "E"}},
		{Funs: make([]api.Fun, 13)},
		{Macros: make([]api.Macro, 2)},
	} {
		if value.May(g, value.Plain(g)) || value.May(g, api.World{}) {
			t.Error(g)
		}
	}
}

// P9.1, P9.4: of as many sorts and functions as there are; it may be.
func TestPlain(t *testing.T) {
	for _, g := range []api.Sig{{}, sigma(), {Sorts: []string{"S"}}, {Funs: []api.Fun{{Name: "f", Len: 1}}}, {Sorts: []string{"A", "B", "C", "D"}}} {
		w := value.Plain(g)
		if !value.May(g, w) {
			t.Error("may not be", g, w)
		}
	}
	for _, g := range append(strange(), sigma(), api.Sig{}, api.Sig{Sorts: make([]string, 9), Funs: make([]api.Fun, 20)}) {
		w := value.Plain(g)
		if len(w.Sizes) != len(g.Sorts) || len(w.Funs) != len(g.Funs) {
			t.Error(g, w)
		}
		for _, n := range w.Sizes {
			if n != 1 {
				t.Error(g, w)
			}
		}
		for _, x := range w.Funs {
			if len(x.Rows) != 0 || x.Else != 0 {
				t.Error(g, w)
			}
		}
	}
}

// P9.1: all fields are held against each other, rows in order; nil is empty.
func TestSame(t *testing.T) {
	var all []api.World
	for _, change := range []func(*api.World){
		func(w *api.World) {},
		func(w *api.World) { w.Sizes[0]++ },
		func(w *api.World) { w.Sizes[1]-- },
		func(w *api.World) { w.Sizes = w.Sizes[:1] },
		func(w *api.World) { w.Sizes = append(w.Sizes, 1) },
		func(w *api.World) { slices.Reverse(w.Sizes) },
		func(w *api.World) { w.Sizes = nil },
		func(w *api.World) { w.Funs[h].Else++ },
		func(w *api.World) { w.Funs[k].Else = 0 },
		func(w *api.World) { w.Funs[p].Rows = []api.Row{row(0)} },
		func(w *api.World) { w.Funs[p].Rows = []api.Row{row(1)} },
		func(w *api.World) { w.Funs[f].Rows[2].Args[0]++ },
		func(w *api.World) { w.Funs[f].Rows[2].Args[1]++ },
		func(w *api.World) { w.Funs[f].Rows[2].Args[2]++ },
		func(w *api.World) { w.Funs[f].Rows[2].Val++ },
		func(w *api.World) { w.Funs[f].Rows[0].Val++ },
		func(w *api.World) { w.Funs[f].Rows = w.Funs[f].Rows[:2] },
		func(w *api.World) { w.Funs[f].Rows = w.Funs[f].Rows[1:] },
		func(w *api.World) { w.Funs[f].Rows = append(w.Funs[f].Rows, row(0)) },
		func(w *api.World) { w.Funs[f].Rows = nil },
		func(w *api.World) { slices.Reverse(w.Funs[f].Rows) },
		func(w *api.World) { r := w.Funs[f].Rows; r[1], r[2] = r[2], r[1] },
		func(w *api.World) { w.Funs = w.Funs[:k] },
		func(w *api.World) { w.Funs = append(w.Funs, api.FunVal{}) },
		func(w *api.World) { slices.Reverse(w.Funs) },
		func(w *api.World) { w.Funs = nil },
	} {
		all = append(all, with(change))
	}
	for i, a := range all {
		for j, b := range all {
			if value.Same(a, b) != (i == j) {
				t.Error(i, j)
			}
		}
		if !value.Same(a, copied(a)) {
			t.Error(i, "copied")
		}
	}
	empty := api.World{Sizes: []int{}, Funs: []api.FunVal{}}
	row0 := api.World{Funs: []api.FunVal{{Rows: []api.Row{}}}}
	if !value.Same(api.World{}, empty) || !value.Same(empty, api.World{}) || !value.Same(row0, api.World{Funs: []api.FunVal{{}}}) || value.Same(row0, empty) {
		t.Error("nil and empty")
	}
}

// P9.2: a row's Val, or Else, of each function.
func TestApply(t *testing.T) {
	few, room := some(), []int{7, 0, 9}
	for i, x := range []struct {
		f    int
		args []int
		want int
	}{
		{f, []int{-5, 2}, 1},
		{f, []int{7, 0}, 0},
		{f, []int{7, 1}, 1},
		{f, []int{7, 2}, 1},
		{f, []int{0, 0}, 1},
		{f, []int{api.Most, 2}, 1},
		{f, []int{-api.Most, 2}, 1},
		{f, room[:2], 0},
		{c, nil, 2},
		{c, []int{}, 2},
		{h, []int{1, 999, -api.Most}, -9},
		{h, []int{0, 0, api.Most}, api.Most},
		{h, []int{1, 0, api.Most}, -api.Most},
		{h, []int{0, 999, -api.Most}, -api.Most},
		{p, nil, 1},
		{k, []int{999}, 0},
		{k, []int{0}, 999},
		{k, []int{1}, 998},
	} {
		if v, e := value.Apply(sigma(), few, x.f, x.args); v != x.want || e != api.OK {
			t.Error(i, v, e)
		}
	}
	w := full(400)
	for i := range 402 {
		want := 1
		if i < 400 {
			want = i % 2
		}
		if v, e := value.Apply(sigma(), w, f, []int{i, i % 3}); v != want || e != api.OK {
			t.Error(i, v, e)
		}
		if v, e := value.Apply(sigma(), w, f, []int{i, (i + 1) % 3}); v != 1 || e != api.OK {
			t.Error("else", i, v, e)
		}
	}
}

// A call is what Apply is asked, and its error; and With, where v is 0.
type call struct {
	f    int
	args []int
	e    api.Errno
}

// calls are such as sigma's functions in some() are not asked by.
func calls() []call {
	l := []call{
		{-1, nil, api.ErrArg},
		{k + 1, nil, api.ErrArg},
		{k + 1, []int{0}, api.ErrArg},
		{f, nil, api.ErrArg},
		{f, []int{7}, api.ErrArg},
		{f, []int{7, 0, 0}, api.ErrArg},
		{f, make([]int, 1000), api.ErrArg},
		{c, []int{0}, api.ErrArg},
		{h, []int{0, 0}, api.ErrArg},
		{h, []int{0, 0, 0, 0}, api.ErrArg},
		{p, []int{0}, api.ErrArg},
		{p, []int{0, 0, 0}, api.ErrArg},
		{k, nil, api.ErrArg},
		{k, []int{0, 0}, api.ErrArg},
		// too few or too many goes ahead of what they are
		{f, []int{api.Most + 1}, api.ErrArg},
		{f, []int{7, 3, 0}, api.ErrArg},
		{k, []int{0, -1}, api.ErrArg},
		{f, []int{api.Most + 1, 0}, api.ErrSort},
		{f, []int{-api.Most - 1, 0}, api.ErrSort},
		{f, []int{7, 3}, api.ErrSort},
		{f, []int{7, -1}, api.ErrSort},
		{f, []int{api.Most + 1, 3}, api.ErrSort},
		{h, []int{2, 0, 0}, api.ErrSort},
		{h, []int{-1, 0, 0}, api.ErrSort},
		{h, []int{0, 1000, 0}, api.ErrSort},
		{h, []int{0, 0, math.MaxInt}, api.ErrSort},
		{k, []int{1000}, api.ErrSort},
		{k, []int{-1}, api.ErrSort},
	}
	for _, n := range far {
		l = append(l, call{n, nil, api.ErrArg}, call{f, []int{n, 0}, api.ErrSort}, call{f, []int{0, n}, api.ErrSort}, call{h, []int{n, n, n}, api.ErrSort})
	}
	return l
}

// none asks that Apply, and With of that v, answer that error alone.
func none(t *testing.T, what any, g api.Sig, w api.World, x call, v int) {
	t.Helper()
	if got, e := value.Apply(g, w, x.f, x.args); got != 0 || e != x.e {
		t.Error("Apply", what, x, got, e)
	}
	noneWith(t, what, g, w, x, v)
}

func noneWith(t *testing.T, what any, g api.Sig, w api.World, x call, v int) {
	t.Helper()
	if o, e := value.With(g, w, x.f, x.args, v); !reflect.DeepEqual(o, api.World{}) || e != x.e {
		t.Error("With", what, x, v, e)
	}
}

// P9.2: where several errors hold, the first one; of v, too.
func TestErrors(t *testing.T) {
	for _, x := range calls() {
		none(t, "some", sigma(), some(), x, 0)
		noneWith(t, "v is none", sigma(), some(), x, -api.Most-1)
		x.e = api.ErrArg
		for i, w := range wrong() {
			none(t, i, sigma(), w, x, 0)
		}
	}
	for i, w := range wrong() {
		none(t, i, sigma(), w, call{p, nil, api.ErrArg}, 0)
		noneWith(t, i, sigma(), w, call{p, nil, api.ErrArg}, 2)
	}
	for i, g := range strange() {
		none(t, i, g, some(), call{f, []int{7, 0}, api.ErrArg}, 0)
		none(t, i, g, value.Plain(g), call{p, nil, api.ErrArg}, 0)
	}
	none(t, "no function", api.Sig{}, api.World{}, call{0, nil, api.ErrArg}, 0)
}

// P9.2: a v that is no value of the result's sort, of a row that is there, and
// of one that is not.
func TestWithValue(t *testing.T) {
	for _, x := range []struct {
		f     int
		there []int
		none  []int
		bad   []int
		good  []int
	}{
		{f, []int{7, 0}, []int{8, 0}, []int{-1, 2}, []int{0, 1}},
		{c, nil, nil, []int{-1, 3, 999}, []int{0, 1, 2}},
		{h, []int{0, 0, api.Most}, []int{0, 0, 0}, []int{-api.Most - 1, api.Most + 1}, []int{-api.Most, 0, api.Most}},
		{p, nil, nil, []int{-1, 2}, []int{0, 1}},
		{k, []int{0}, []int{1}, []int{-1, 1000}, []int{0, 999}},
	} {
		for _, l := range [][]int{x.there, x.none} {
			for _, v := range append(x.bad, far...) {
				noneWith(t, "v", sigma(), some(), call{x.f, l, api.ErrSort}, v)
			}
			for _, v := range x.good {
				if o, e := value.With(sigma(), some(), x.f, l, v); e != api.OK || !value.May(sigma(), o) {
					t.Error(x.f, l, v, e)
				}
			}
		}
	}
}

// P9.2: a row is changed where it stands, or is put behind, also where v is
// what it was; nothing else is.
func TestWith(t *testing.T) {
	for i, x := range []struct {
		f    int
		args []int
		v    int
		at   int
	}{
		{f, []int{-5, 2}, 0, 0},
		{f, []int{-5, 2}, 1, 0},
		{f, []int{7, 0}, 1, 1},
		{f, []int{7, 1}, 0, 2},
		{f, []int{7, 2}, 0, 3},
		{f, []int{7, 2}, 1, 3}, // as Else
		{f, []int{0, 0}, 0, 3},
		{f, []int{api.Most, 2}, 0, 3},
		{c, nil, 0, 0},
		{h, []int{0, 0, api.Most}, 5, 1},
		{h, []int{1, 999, api.Most}, -5, 2},
		{p, nil, 0, 0},
		{p, []int{}, 1, 0},
		{k, []int{999}, 999, 0},
		{k, []int{998}, 0, 2},
	} {
		want := some()
		rows := &want.Funs[x.f].Rows
		if x.at == len(*rows) {
			*rows = append(*rows, api.Row{Args: args(x.args...)})
		}
		(*rows)[x.at].Val = x.v
		o, e := value.With(sigma(), some(), x.f, x.args, x.v)
		if e != api.OK || !value.Same(o, want) || !reflect.DeepEqual(flat(o), flat(want)) {
			t.Error(i, o, e)
		}
	}
}

// P9.2: the last row that there may be, and one more; a row that is there is
// changed nonetheless, and a sort goes ahead of the number of rows.
func TestWithMany(t *testing.T) {
	w := full(399)
	w, e := value.With(sigma(), w, f, []int{-1, 1}, 0)
	if e != api.OK || len(w.Funs[f].Rows) != 400 || w.Funs[f].Rows[399] != row(0, -1, 1) || !value.May(sigma(), w) {
		t.Fatal(e, len(w.Funs[f].Rows))
	}
	noneWith(t, "more", sigma(), w, call{f, []int{-2, 1}, api.ErrArg}, 0)
	noneWith(t, "more", sigma(), w, call{f, []int{-1, 2}, api.ErrArg}, 1)
	noneWith(t, "v ahead", sigma(), w, call{f, []int{-2, 1}, api.ErrSort}, 2)
	noneWith(t, "argument ahead", sigma(), w, call{f, []int{-2, 3}, api.ErrSort}, 0)
	for _, at := range []int{0, 200, 398, 399} {
		r := w.Funs[f].Rows[at]
		o, e := value.With(sigma(), w, f, r.Args[:2], 1-r.Val)
		if e != api.OK || len(o.Funs[f].Rows) != 400 || o.Funs[f].Rows[at] != row(1-r.Val, r.Args[:]...) {
			t.Error(at, e)
		}
	}
	if o, e := value.With(sigma(), w, p, nil, 0); e != api.OK || len(o.Funs[p].Rows) != 1 || len(o.Funs[f].Rows) != 400 {
		t.Error("of another function", e)
	}
}

// P9.3: each sort's values at their bounds, and one past them.
func TestText(t *testing.T) {
	long := strings.Repeat("a", 100)
	g := api.Sig{Sorts: []string{"S", "a b", "", long}}
	most := strconv.Itoa(api.Most)
	for _, x := range []struct {
		sort, v int
		s       string
	}{
		{api.Bool, 0, "false"},
		{api.Bool, 1, "true"},
		{api.Int, 0, "0"},
		{api.Int, 1, "1"},
		{api.Int, 42, "42"},
		{api.Int, -1, "(- 1)"},
		{api.Int, -4, "(- 4)"},
		{api.Int, api.Most, most},
		{api.Int, -api.Most, "(- " + most + ")"},
		{own, 0, "(as @0 S)"},
		{own, 7, "(as @7 S)"},
		{own, 999, "(as @999 S)"},
		{own, 1000, "(as @1000 S)"},
		{own, api.Most, "(as @" + most + " S)"},
		{own + 1, 0, "(as @0 |a b|)"},
		{own + 2, 10, "(as @10 ||)"},
		{own + 3, 1, "(as @1 " + long + ")"},
	} {
		if s, e := value.Text(g, x.sort, x.v); s != x.s || e != api.OK {
			t.Error(x, s, e)
		}
	}
	for _, n := range append([]int{-1, -2, own + 4, own + 5}, far...) {
		for _, v := range append([]int{0, 1, -1, api.Most + 1}, far...) {
			if s, e := value.Text(g, n, v); s != "" || e != api.ErrArg {
				t.Error("no sort", n, v, s, e)
			}
		}
	}
	for n, l := range [][]int{
		api.Bool: {-1, 2, 3, api.Most, -api.Most, api.Most + 1},
		api.Int:  {api.Most + 1, -api.Most - 1},
		own:      {-1, -2, -api.Most, api.Most + 1},
		own + 3:  {-1, -2, -api.Most, api.Most + 1},
	} {
		for _, v := range append(l, far...) {
			if s, e := value.Text(g, n, v); l != nil && (s != "" || e != api.ErrSort) {
				t.Error("none", n, v, s, e)
			}
		}
	}
}

// P9.3: names by the rule for names, whatever the signature.
func TestTextNames(t *testing.T) {
	for name, want := range map[string]string{"Bool": "Bool", "let": "let", "7a": "|7a|", "@0": "@0", "a\nb": "|a\nb|", "é": "|é|", "(": "|(|", "and": "and"} {
		g := api.Sig{Sorts: []string{"S", "S", "S", "S", "S", name}}
		if s, e := value.Text(g, own+5, 3); s != "(as @3 "+want+")" || e != api.OK {
			t.Errorf("%q: %q %v", name, s, e)
		}
	}
	if s, e := value.Text(api.Sig{}, own, 0); s != "" || e != api.ErrArg {
		t.Error(s, e)
	}
}
