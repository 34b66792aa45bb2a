package sig_test

import (
	"math"
	"reflect"
	"slices"
	"strconv"
	"strings"
	"testing"

	"gantry/api"
	"gantry/lex"
	"gantry/sexpr"
	"gantry/sig"
)

const (
	core     = "true false not and or xor => = distinct ite + - <= < >= >"
	reserved = "_ ! as let exists forall match par"
)

// names that may not be
var wrong = []string{"|", "a|", "|a|", `\`, `a\b`, "\x00", "a\x1f", "\v", "\x7f", "é", "\xff", strings.Repeat("a", 101)}

func sym(s string) api.Sexp { return api.Sexp{Text: s} }

func list(l ...api.Sexp) api.Sexp { return api.Sexp{Kind: api.SxList, L: l} }

// nest is n lists, each within the one ahead.
func nest(n int) api.Sexp {
	x := list()
	for range n - 1 {
		x = list(x)
	}
	return x
}

// endless is a list within itself.
func endless() api.Sexp {
	x := list(sym("a"), sym("b"))
	x.L[1] = x
	return x
}

func args(l ...int) (a [api.MaxArgs]int) {
	copy(a[:], l)
	return a
}

// names are n unlike names that begin with s.
func names(s string, n int) (l []string) {
	for i := range n {
		l = append(l, s+strconv.Itoa(i))
	}
	return l
}

func funs(n int) (l []api.Fun) {
	for _, s := range names("f", n) {
		l = append(l, api.Fun{Name: s})
	}
	return l
}

func macros(n int) (l []api.Macro) {
	for _, s := range names("m", n) {
		l = append(l, api.Macro{Name: s, Body: sym("true")})
	}
	return l
}

func params(n int) (l []api.Param) {
	for _, s := range names("p", n) {
		l = append(l, api.Param{Name: s})
	}
	return l
}

// some is a signature with something of all.
func some() api.Sig {
	return api.Sig{
		Sorts: []string{"S", "and", ""},
		Funs: []api.Fun{
			{Name: "x", Res: api.Int},
			{Name: "f", Len: 2, Args: args(api.Own, api.Own+2), Res: api.Own + 1},
			{Name: "S", Len: 3, Args: args(0, 1, 2)},
		},
		Macros: []api.Macro{
			{Name: "m", Body: sym("true")},
			{Name: "Int", Params: []api.Param{{Name: "x", Sort: api.Own + 2}, {Name: "and", Sort: api.Int}}, Res: api.Own, Body: list(sym("f"), list(sym("x"), sym("y")), list())},
		},
	}
}

// with is some(), changed.
func with(change func(*api.Sig)) api.Sig {
	g := some()
	change(&g)
	return g
}

// fun, macro are some(), with that one behind.
func fun(f api.Fun) api.Sig { return with(func(g *api.Sig) { g.Funs = append(g.Funs, f) }) }

func macro(m api.Macro) api.Sig { return with(func(g *api.Sig) { g.Macros = append(g.Macros, m) }) }

// P4.1: the sixteen, and what is near to them.
func TestCore(t *testing.T) {
	l := strings.Fields(core)
	if len(l) != 16 {
		t.Fatal(len(l))
	}
	for _, s := range l {
		if !sig.Core(s) {
			t.Error(s)
		}
		for _, near := range []string{s + s, s + " ", " " + s, s[1:], strings.ToUpper(s) + "A", "|" + s + "|", s + "\x00"} {
			if sig.Core(near) != slices.Contains(l, near) {
				t.Errorf("%q", near)
			}
		}
	}
	for _, s := range append(append(strings.Fields(reserved), wrong...), "", "Bool", "Int", "bool", "True", "==", "<>", "*", "/", "!=", "implies", "iff", "if", "nor", core) {
		if sig.Core(s) {
			t.Errorf("%q", s)
		}
	}
}

// P4.1: where a name is, of each kind by itself.
func TestFind(t *testing.T) {
	const no = -1
	for i, x := range []struct {
		g    api.Sig
		name string
		want [3]int
	}{
		{api.Sig{}, "Bool", [3]int{0, no, no}},
		{api.Sig{}, "Int", [3]int{1, no, no}},
		{api.Sig{}, "", [3]int{no, no, no}},
		{api.Sig{}, "x", [3]int{no, no, no}},
		{api.Sig{}, "and", [3]int{no, no, no}},
		{some(), "Bool", [3]int{0, no, no}},
		{some(), "Int", [3]int{1, no, 1}},
		{some(), "S", [3]int{2, 2, no}},
		{some(), "and", [3]int{3, no, no}},
		{some(), "", [3]int{4, no, no}},
		{some(), "x", [3]int{no, 0, no}},
		{some(), "f", [3]int{no, 1, no}},
		{some(), "m", [3]int{no, no, 0}},
		{some(), "s", [3]int{no, no, no}},
		{some(), "S ", [3]int{no, no, no}},
		{some(), "|S|", [3]int{no, no, no}},
		{some(), "true", [3]int{no, no, no}},
		{some(), "let", [3]int{no, no, no}},
		// in what may not be, the first
		{api.Sig{Sorts: []string{"Int", "T", "T", "let"}}, "Int", [3]int{1, no, no}},
		{api.Sig{Sorts: []string{"Int", "T", "T", "let"}}, "T", [3]int{3, no, no}},
		{api.Sig{Sorts: []string{"Int", "T", "T", "let"}}, "let", [3]int{5, no, no}},
		{api.Sig{Sorts: names("S", 9)}, "S8", [3]int{10, no, no}},
		{api.Sig{Funs: append(funs(20), funs(20)...)}, "f17", [3]int{no, 17, no}},
		{api.Sig{Macros: append(macros(20), macros(20)...), Funs: []api.Fun{{Name: "m19"}}}, "m19", [3]int{no, 0, 19}},
	} {
		for k, find := range []func(api.Sig, string) (int, bool){sig.Sort, sig.Fun, sig.Macro} {
			if n, ok := find(x.g, x.name); ok != (x.want[k] != no) || n != max(x.want[k], 0) {
				t.Error(i, k, n, ok)
			}
		}
	}
}

// P4.1: names of sorts, at places below 0 and beyond, too.
func TestSortName(t *testing.T) {
	for i, x := range []struct {
		g    api.Sig
		want []string
	}{
		{api.Sig{}, []string{"Bool", "Int"}},
		{api.Sig{Sorts: []string{}, Funs: funs(3)}, []string{"Bool", "Int"}},
		{api.Sig{Sorts: []string{"S"}}, []string{"Bool", "Int", "S"}},
		{some(), []string{"Bool", "Int", "S", "and", ""}},
		{api.Sig{Sorts: []string{"S", "S", "let", "Bool", "\x00", "T"}}, []string{"Bool", "Int", "S", "S", "let", "Bool", "\x00", "T"}},
	} {
		for s, want := range x.want {
			if name, ok := sig.SortName(x.g, s); name != want || !ok {
				t.Error(i, s, name, ok)
			}
		}
		for _, s := range []int{math.MinInt, math.MinInt + 1, -api.Own, -1, len(x.want), len(x.want) + 1, len(x.want) + 2, math.MaxInt - 1, math.MaxInt} {
			if name, ok := sig.SortName(x.g, s); name != "" || ok {
				t.Error(i, s, name, ok)
			}
		}
	}
}

// P4.1: what may be, with each bound met exactly.
func TestCheck(t *testing.T) {
	long := strings.Repeat("a", 100)
	for i, g := range []api.Sig{
		{},
		{Sorts: []string{}, Funs: []api.Fun{}, Macros: []api.Macro{}},
		some(),
		{Sorts: names("S", api.MaxSorts)},
		{Sorts: strings.Fields("and true let1 x")},
		{Sorts: []string{"", " ", long, "(a)"}},
		{Sorts: []string{"bool", "INT", "Bool ", "Booll"}},
		{Funs: funs(api.MaxFuns)},
		{Macros: macros(api.MaxFuns)},
		{Sorts: names("f", api.MaxSorts), Funs: funs(api.MaxFuns), Macros: macros(api.MaxFuns)},
		{Funs: []api.Fun{{Name: "Bool"}, {Name: "Int"}, {Name: ""}, {Name: long}}},
		{Macros: []api.Macro{{Name: "Bool", Body: sym("")}, {Name: "", Body: nest(api.MaxDepth)}, {Name: long, Body: api.Sexp{Kind: api.SxNum, Text: strings.Repeat("9", 100)}}}},
		fun(api.Fun{Name: "g", Len: 0, Res: api.Own + 2}),
		fun(api.Fun{Name: "g", Len: api.MaxArgs, Args: args(4, 4, 4)}),
		macro(api.Macro{Name: "n", Params: params(api.MaxArgs), Res: api.Own + 2, Body: list()}),
		macro(api.Macro{Name: "n", Params: []api.Param{{Name: "n", Sort: 4}, {Name: "", Sort: 3}, {Name: "true", Sort: 2}}, Body: api.Sexp{Kind: api.SxKey, Text: "k"}}),
		macro(api.Macro{Name: "n", Params: []api.Param{{Name: long, Sort: 0}, {Name: "Int", Sort: 0}}, Body: sym("let")}),
	} {
		if e := sig.Check(g); e != api.OK {
			t.Error(i, e)
		}
	}
}

// P4.1: names that are not free when those ahead are there, or that may not be.
func TestCheckNames(t *testing.T) {
	l := append(slices.Concat(wrong, strings.Fields(reserved)), "Bool", "Int", "S", "")
	for _, s := range l {
		for at := range 3 {
			g := with(func(g *api.Sig) { g.Sorts = slices.Insert(g.Sorts, at, s) })
			if sig.Check(g) != api.ErrArg {
				t.Errorf("%q %d", s, at)
			}
		}
	}
	l = append(slices.Concat(wrong, strings.Fields(reserved), strings.Fields(core)), "x", "f", "S", "m", "Int")
	for _, s := range l {
		for at := range 3 {
			f := with(func(g *api.Sig) { g.Funs = slices.Insert(g.Funs, at, api.Fun{Name: s}) })
			m := with(func(g *api.Sig) { g.Macros = slices.Insert(g.Macros, min(at, 2), api.Macro{Name: s, Body: sym("x")}) })
			if sig.Check(f) != api.ErrArg || sig.Check(m) != api.ErrArg {
				t.Errorf("%q %d", s, at)
			}
		}
	}
	for _, s := range slices.Concat(wrong, strings.Fields(reserved)) {
		for at := range 3 {
			m := api.Macro{Name: "n", Params: params(2), Body: sym("x")}
			m.Params = slices.Insert(m.Params, at, api.Param{Name: s})
			if sig.Check(macro(m)) != api.ErrArg {
				t.Errorf("%q %d", s, at)
			}
		}
	}
}

// strange are functions and macros that may not be in some(), whatever their names.
func strange() (fs []api.Fun, ms []api.Macro) {
	fs = []api.Fun{
		{Len: -1},
		{Len: math.MinInt},
		{Len: api.MaxArgs + 1},
		{Len: math.MaxInt},
		{Res: -1},
		{Res: api.Own + 3},
		{Res: math.MaxInt},
		{Res: math.MinInt},
		{Len: 1, Args: args(-1)},
		{Len: 1, Args: args(api.Own + 3)},
		{Len: 2, Args: args(0, api.Own+3)},
		{Len: 3, Args: args(0, 0, api.Own+3)},
		{Len: 3, Args: args(0, 0, math.MinInt)},
		{Len: 0, Args: args(1)},
		{Len: 0, Args: args(0, 0, 1)},
		{Len: 1, Args: args(0, 1)},
		{Len: 2, Args: args(0, 0, 1)},
		{Len: 2, Args: args(1, 1, -1)},
	}
	for _, l := range [][]api.Param{
		params(api.MaxArgs + 1),
		params(100),
		{{Name: "a", Sort: 0}, {Name: "a", Sort: 0}},
		{{Name: "a", Sort: 0}, {Name: "b", Sort: 0}, {Name: "a", Sort: 1}},
		{{Name: "a", Sort: 0}, {Name: "b", Sort: 0}, {Name: "b", Sort: 1}},
		{{Name: "", Sort: 0}, {Name: "", Sort: 1}},
		{{Name: "a", Sort: -1}},
		{{Name: "a", Sort: api.Own + 3}},
		{{Name: "a", Sort: 0}, {Name: "b", Sort: 0}, {Name: "c", Sort: math.MaxInt}},
		{{Name: "a", Sort: 0}, {Name: "b", Sort: math.MinInt}, {Name: "c", Sort: 0}},
	} {
		ms = append(ms, api.Macro{Params: l, Body: sym("x")})
	}
	for _, n := range []int{-1, api.Own + 3, math.MinInt, math.MaxInt} {
		ms = append(ms, api.Macro{Res: n, Body: sym("x")})
	}
	for _, x := range []api.Sexp{
		{Kind: 9},
		{Kind: -1},
		sym("|"),
		{Text: "x", L: []api.Sexp{sym("x")}},
		{Kind: api.SxNum},
		{Kind: api.SxNum, Text: "01"},
		{Kind: api.SxNum, Text: strings.Repeat("9", 101)},
		{Kind: api.SxKey},
		{Kind: api.SxList, Text: "x"},
		list(sym("x"), list(sym("\x00"))),
		nest(api.MaxDepth + 1),
		nest(1 << 16),
		endless(),
	} {
		ms = append(ms, api.Macro{Body: x})
	}
	return fs, ms
}

// P4.1: each bound passed by one, places below 0 or beyond what there is.
func TestCheckWrong(t *testing.T) {
	for i, g := range []api.Sig{
		{Sorts: names("S", api.MaxSorts+1)},
		{Sorts: names("S", 1000)},
		{Funs: funs(api.MaxFuns + 1)},
		{Funs: funs(1000)},
		{Macros: macros(api.MaxFuns + 1)},
		{Macros: macros(1000)},
		{Funs: []api.Fun{{Name: "g", Res: api.Own}}},
		{Funs: []api.Fun{{Name: "g", Len: 1, Args: args(api.Own)}}},
		{Macros: []api.Macro{{Name: "g", Res: api.Own, Body: sym("x")}}},
	} {
		if e := sig.Check(g); e != api.ErrArg {
			t.Error(i, e)
		}
	}
	fs, ms := strange()
	for i, f := range fs {
		f.Name = "g"
		first := with(func(g *api.Sig) { g.Funs = slices.Insert(g.Funs, 0, f) })
		if sig.Check(fun(f)) != api.ErrArg || sig.Check(first) != api.ErrArg {
			t.Error(i)
		}
	}
	for i, m := range ms {
		m.Name = "n"
		first := with(func(g *api.Sig) { g.Macros = slices.Insert(g.Macros, 0, m) })
		if sig.Check(macro(m)) != api.ErrArg || sig.Check(first) != api.ErrArg {
			t.Error(i)
		}
	}
}

// P4.1: all fields are held against each other; nil is empty.
func TestSame(t *testing.T) {
	l := []api.Sig{
		{},
		some(),
		with(func(g *api.Sig) { g.Sorts[0] = "T" }),
		with(func(g *api.Sig) { g.Sorts[2] = "T" }),
		with(func(g *api.Sig) { g.Sorts = g.Sorts[:2] }),
		with(func(g *api.Sig) { g.Sorts = append(g.Sorts, "") }),
		with(func(g *api.Sig) { g.Sorts = nil }),
		with(func(g *api.Sig) { g.Sorts[0], g.Sorts[1] = g.Sorts[1], g.Sorts[0] }),
		with(func(g *api.Sig) { g.Funs[0].Name = "y" }),
		with(func(g *api.Sig) { g.Funs[2].Name = "y" }),
		with(func(g *api.Sig) { g.Funs[1].Len = 3 }),
		with(func(g *api.Sig) { g.Funs[1].Args[0] = 0 }),
		with(func(g *api.Sig) { g.Funs[1].Args[2] = 1 }),
		with(func(g *api.Sig) { g.Funs[2].Res = 1 }),
		with(func(g *api.Sig) { g.Funs = g.Funs[:2] }),
		with(func(g *api.Sig) { g.Funs = append(g.Funs, api.Fun{}) }),
		with(func(g *api.Sig) { g.Funs = nil }),
		with(func(g *api.Sig) { g.Macros[0].Name = "n" }),
		with(func(g *api.Sig) { g.Macros[1].Name = "n" }),
		with(func(g *api.Sig) { g.Macros[0].Params = make([]api.Param, 1) }),
		with(func(g *api.Sig) { g.Macros[1].Params[1].Name = "n" }),
		with(func(g *api.Sig) { g.Macros[1].Params[0].Sort = 0 }),
		with(func(g *api.Sig) { g.Macros[1].Params = g.Macros[1].Params[:1] }),
		with(func(g *api.Sig) { g.Macros[1].Res = 0 }),
		with(func(g *api.Sig) { g.Macros[0].Body.Text = "false" }),
		with(func(g *api.Sig) { g.Macros[0].Body.Kind = api.SxKey }),
		with(func(g *api.Sig) { g.Macros[1].Body.L[1].L[0].Text = "z" }),
		with(func(g *api.Sig) { g.Macros[1].Body.L[2].L = []api.Sexp{{}} }),
		with(func(g *api.Sig) { g.Macros = g.Macros[:1] }),
		with(func(g *api.Sig) { g.Macros = append(g.Macros, api.Macro{}) }),
		with(func(g *api.Sig) { g.Macros = nil }),
	}
	for i, a := range l {
		for j, b := range l {
			if sig.Same(a, b) != (i == j) {
				t.Error(i, j)
			}
		}
	}
	empty := api.Sig{Sorts: []string{}, Funs: []api.Fun{}, Macros: make([]api.Macro, 0, 3)}
	a, b := some(), some()
	b.Macros[0].Params, b.Macros[0].Body.L, b.Macros[1].Body.L[2].L = []api.Param{}, []api.Sexp{}, nil
	if !sig.Same(api.Sig{}, empty) || !sig.Same(empty, api.Sig{}) || !sig.Same(a, b) || !sig.Same(b, a) || !sig.Same(some(), some()) {
		t.Error("nil is not empty")
	}
	deep := macro(api.Macro{Body: nest(1 << 16)})
	round := macro(api.Macro{Body: endless()})
	if !sig.Same(deep, macro(api.Macro{Body: nest(1 << 16)})) || sig.Same(deep, macro(api.Macro{Body: nest(1<<16 + 1)})) || sig.Same(round, deep) || sig.Same(deep, round) {
		t.Error("deep")
	}
	sig.Same(round, macro(api.Macro{Body: endless()})) // it ends
}

// P4.2: of each name, as a sort's and as a function's.
func TestFree(t *testing.T) {
	type want struct {
		sort, fun api.Errno
	}
	ok, name, there := api.OK, api.ErrName, api.ErrThere
	none, all := map[string]want{}, map[string]want{}
	for _, s := range strings.Fields(core) {
		none[s], all[s] = want{ok, there}, want{ok, there}
	}
	for _, s := range append(strings.Fields(reserved), wrong...) {
		none[s], all[s] = want{name, name}, want{name, name}
	}
	for _, s := range []string{"", "a b", "S ", "bool", "Not", "lets", strings.Repeat("a", 100), "==", ";", "m0", "y"} {
		none[s], all[s] = want{ok, ok}, want{ok, ok}
	}
	for s, w := range map[string]want{"S": {there, there}, "and": {there, there}, "": {there, ok}, "x": {ok, there}, "f": {ok, there}, "m": {ok, there}, "Bool": {there, ok}, "Int": {there, there}} {
		none[s], all[s] = want{ok, ok}, w
	}
	none["Bool"], none["Int"], none["and"] = want{there, ok}, want{there, ok}, want{ok, there}
	for i, x := range []struct {
		g api.Sig
		l map[string]want
	}{{api.Sig{}, none}, {some(), all}} {
		for s, w := range x.l {
			if a, b := sig.Free(x.g, s, true), sig.Free(x.g, s, false); a != w.sort || b != w.fun {
				t.Errorf("%d %q: %d %d", i, s, a, b)
			}
		}
	}
}

// P4.2: Free asks of names alone, whatever the signature; ErrName is ahead of ErrThere.
func TestFreeWrong(t *testing.T) {
	g := api.Sig{
		Sorts:  append(names("S", 9), "S3", "let", "a|", "Int"),
		Funs:   append(funs(30), api.Fun{Name: "f3", Len: -1}, api.Fun{Name: "let"}, api.Fun{Name: "a|"}, api.Fun{Name: "and"}),
		Macros: append(macros(30), api.Macro{Name: "m3", Body: endless()}, api.Macro{Name: "as"}),
	}
	for s, want := range map[string][2]api.Errno{
		"S8": {api.ErrThere, 0}, "S3": {api.ErrThere, 0}, "S9": {}, "let": {api.ErrName, api.ErrName}, "a|": {api.ErrName, api.ErrName}, "as": {api.ErrName, api.ErrName},
		"f3": {0, api.ErrThere}, "f29": {0, api.ErrThere}, "f30": {}, "m3": {0, api.ErrThere}, "m29": {0, api.ErrThere}, "m30": {}, "and": {0, api.ErrThere}, "Int": {api.ErrThere, 0},
	} {
		if a, b := sig.Free(g, s, true), sig.Free(g, s, false); a != want[0] || b != want[1] {
			t.Error(s, a, b)
		}
	}
}

// none fails if a signature is told beside an error, or if e is not what is wanted.
func none(t *testing.T, what any, g api.Sig, e, want api.Errno) {
	t.Helper()
	if e != want || e != api.OK && !reflect.DeepEqual(g, api.Sig{}) {
		t.Error(what, e, g)
	}
}

// P4.2: where several errors hold, the first one.
func TestAddErrors(t *testing.T) {
	bad, at := []int{0, 1}, 0
	full := api.Sig{Sorts: names("S", api.MaxSorts), Funs: funs(api.MaxFuns), Macros: macros(api.MaxFuns)}
	over := api.Sig{Sorts: []string{"S", "S"}, Funs: funs(api.MaxFuns + 1)}
	open := api.Sig{Sorts: []string{"S0"}, Funs: funs(1), Macros: macros(1)}
	for k, g := range map[string]api.Sig{"open": open, "full": full, "over": over} {
		for _, s := range []struct {
			name string
			e    [2]api.Errno // a sort's, a function's
		}{{"let", [2]api.Errno{api.ErrName, api.ErrName}}, {"\x00", [2]api.Errno{api.ErrName, api.ErrName}}, {"S0", [2]api.Errno{api.ErrThere, 0}}, {"Int", [2]api.Errno{api.ErrThere, 0}}, {"f0", [2]api.Errno{0, api.ErrThere}}, {"m0", [2]api.Errno{0, api.ErrThere}}, {"ite", [2]api.Errno{0, api.ErrThere}}, {"n", [2]api.Errno{}}} {
			for _, b := range bad {
				at++
				want := s.e
				for i := range want {
					switch {
					case k == "over":
						want[i] = api.ErrArg
					case want[i] != api.OK:
					case b == 1 && i == 1:
						want[i] = api.ErrArg
					case k == "full":
						want[i] = api.ErrMany
					}
				}
				o, e := sig.AddSort(g, s.name)
				none(t, []any{at, k, s.name}, o, e, want[0])
				o, e = sig.AddFun(g, api.Fun{Name: s.name, Args: args(0, 0, b)})
				none(t, []any{at, k, s.name, b}, o, e, want[1])
				o, e = sig.AddMacro(g, api.Macro{Name: s.name, Body: api.Sexp{Kind: int8(9 * b)}})
				none(t, []any{at, k, s.name, b}, o, e, want[1])
			}
		}
	}
}

// P4.2: what may not be is not added; what may be goes up to the bound.
func TestAddBounds(t *testing.T) {
	fs, ms := strange()
	for i, f := range fs {
		f.Name = "g"
		o, e := sig.AddFun(some(), f)
		none(t, i, o, e, api.ErrArg)
	}
	for i, m := range ms {
		m.Name = "n"
		o, e := sig.AddMacro(some(), m)
		none(t, i, o, e, api.ErrArg)
	}
	g, e := api.Sig{}, api.OK
	for i := range 3 * (api.MaxFuns + 1) {
		name, o := "n"+strconv.Itoa(i), api.Sig{}
		n, most := 0, api.MaxFuns
		switch i % 3 {
		case 0:
			n, most = len(g.Sorts), api.MaxSorts
			o, e = sig.AddSort(g, name)
		case 1:
			n = len(g.Funs)
			o, e = sig.AddFun(g, api.Fun{Name: name})
		case 2:
			n = len(g.Macros)
			o, e = sig.AddMacro(g, api.Macro{Name: name})
		}
		if n < most {
			none(t, i, o, e, api.OK)
			g = o
		} else {
			none(t, i, o, e, api.ErrMany)
		}
	}
	if len(g.Sorts) != api.MaxSorts || len(g.Funs) != api.MaxFuns || len(g.Macros) != api.MaxFuns || sig.Check(g) != api.OK {
		t.Error(g)
	}
}

// P4.2: what is added is behind, whole.
func TestAdd(t *testing.T) {
	for _, g := range []api.Sig{{}, {Sorts: []string{"A", "B"}}, some()} {
		o, e := sig.AddSort(g, "T")
		none(t, "sort", o, e, api.OK)
		if !reflect.DeepEqual(o.Sorts, append(slices.Clone(g.Sorts), "T")) || !slices.Equal(o.Funs, g.Funs) || !reflect.DeepEqual(o.Macros, g.Macros) {
			t.Error(o)
		}
		f := api.Fun{Name: "g", Len: 2, Args: args(1, 0), Res: 1}
		o, e = sig.AddFun(g, f)
		none(t, "fun", o, e, api.OK)
		if !slices.Equal(o.Sorts, g.Sorts) || !slices.Equal(o.Funs, append(slices.Clone(g.Funs), f)) || !reflect.DeepEqual(o.Macros, g.Macros) {
			t.Error(o)
		}
		m := api.Macro{Name: "n", Params: []api.Param{{Name: "n", Sort: 1}, {Name: "true", Sort: 0}}, Res: 1, Body: list(sym("n"), list(sym("let"), sym("x")))}
		o, e = sig.AddMacro(g, m)
		none(t, "macro", o, e, api.OK)
		if !slices.Equal(o.Sorts, g.Sorts) || !slices.Equal(o.Funs, g.Funs) || !reflect.DeepEqual(o.Macros, append(slices.Clone(g.Macros), m)) {
			t.Error(o)
		}
	}
}

// P4.2: the first so many, at 0, at all there is, below 0 and beyond.
func TestCut(t *testing.T) {
	g := some()
	ends := []int{math.MinInt, -1, 0, 1, 2, 3, 4, math.MaxInt}
	for _, s := range ends {
		for _, f := range ends {
			for _, m := range ends {
				o, e := sig.Cut(g, s, f, m)
				if min(s, f, m) < 0 || s > 3 || f > 3 || m > 2 {
					none(t, []any{s, f, m}, o, e, api.ErrArg)
					continue
				}
				want := api.Sig{Sorts: g.Sorts[:s], Funs: g.Funs[:f], Macros: g.Macros[:m]}
				need := 0 // how many sorts functions and macros stand on
				if f == 2 || m == 2 {
					need = 3
				}
				if f == 3 {
					need = 3
				}
				if s < need {
					none(t, []any{s, f, m}, o, e, api.ErrArg)
				} else if e != api.OK || !sig.Same(o, want) || sig.Check(o) != api.OK {
					t.Error(s, f, m, o, e)
				}
			}
		}
	}
	for i, g := range []api.Sig{{Sorts: names("S", 5)}, {Sorts: []string{"S", "S"}}, {Sorts: []string{"let"}}, {Funs: funs(13)}, {Funs: []api.Fun{{Name: "f", Res: 2}}}, {Macros: []api.Macro{{Name: "m", Body: endless()}}}} {
		o, e := sig.Cut(g, 0, 0, 0) // what may not be is not mended by it
		none(t, i, o, e, api.ErrArg)
	}
	o, e := sig.Cut(api.Sig{}, 0, 0, 0)
	if e != api.OK || !sig.Same(o, api.Sig{}) {
		t.Error(o, e)
	}
	o, e = sig.Cut(api.Sig{}, 0, 0, 1)
	none(t, "beyond", o, e, api.ErrArg)
}

// roomy is g with spare room behind each of its rows, and what stands in that.
func roomy(g api.Sig) (api.Sig, func() bool) {
	sorts := append(slices.Clone(g.Sorts), "spare", "spare")
	funs := append(slices.Clone(g.Funs), api.Fun{Name: "spare"}, api.Fun{Name: "spare"})
	macros := append(slices.Clone(g.Macros), api.Macro{Name: "spare"}, api.Macro{Name: "spare"})
	for i := range macros {
		m := &macros[i]
		m.Params = append(m.Params, api.Param{Name: "spare"})[:len(m.Params)]
		m.Body.L = append(m.Body.L, sym("spare"))[:len(m.Body.L)]
	}
	asIs := func() bool {
		ok := sorts[len(g.Sorts)] == "spare" && sorts[len(g.Sorts)+1] == "spare"
		ok = ok && funs[len(g.Funs)].Name == "spare" && funs[len(g.Funs)+1].Name == "spare"
		ok = ok && macros[len(g.Macros)].Name == "spare" && macros[len(g.Macros)+1].Name == "spare"
		for _, m := range macros {
			ok = ok && m.Params[:len(m.Params)+1][len(m.Params)].Name == "spare" && m.Body.L[:len(m.Body.L)+1][len(m.Body.L)].Text == "spare"
		}
		return ok
	}
	return api.Sig{Sorts: sorts[:len(g.Sorts)], Funs: funs[:len(g.Funs)], Macros: macros[:len(g.Macros)]}, asIs
}

// spoil writes over all that g has, and over the room behind it.
func spoil(g api.Sig) {
	var body func(x *api.Sexp)
	body = func(x *api.Sexp) {
		for i := range x.L[:cap(x.L)] {
			body(&x.L[:cap(x.L)][i])
		}
		x.Kind, x.Text = 9, "spoilt"
	}
	for i := range g.Sorts[:cap(g.Sorts)] {
		g.Sorts[:cap(g.Sorts)][i] = "spoilt"
	}
	for i := range g.Funs[:cap(g.Funs)] {
		g.Funs[:cap(g.Funs)][i] = api.Fun{Name: "spoilt", Len: 9}
	}
	for i := range g.Macros[:cap(g.Macros)] {
		m := &g.Macros[:cap(g.Macros)][i]
		for j := range m.Params[:cap(m.Params)] {
			m.Params[:cap(m.Params)][j] = api.Param{Name: "spoilt"}
		}
		body(&m.Body)
		m.Name, m.Res = "spoilt", 9
	}
}

// P4.2 (R4): what was handed in is as it was behind every call, and no two
// answers, nor an answer and what was handed in, share any memory.
func TestMemory(t *testing.T) {
	calls := []func(api.Sig) (api.Sig, api.Errno){
		func(g api.Sig) (api.Sig, api.Errno) { return sig.AddSort(g, "T") },
		func(g api.Sig) (api.Sig, api.Errno) { return sig.AddSort(g, "U") },
		func(g api.Sig) (api.Sig, api.Errno) { return sig.AddFun(g, api.Fun{Name: "g"}) },
		func(g api.Sig) (api.Sig, api.Errno) { return sig.AddFun(g, api.Fun{Name: "h"}) },
		func(g api.Sig) (api.Sig, api.Errno) { return sig.AddMacro(g, api.Macro{Name: "n"}) },
		func(g api.Sig) (api.Sig, api.Errno) { return sig.AddMacro(g, api.Macro{Name: "o"}) },
		func(g api.Sig) (api.Sig, api.Errno) {
			return sig.Cut(g, len(g.Sorts), len(g.Funs), len(g.Macros))
		},
		func(g api.Sig) (api.Sig, api.Errno) { return sig.Cut(g, 3, 1, 0) },
		func(g api.Sig) (api.Sig, api.Errno) { return sig.Cut(g, 0, 1, 1) },
	}
	fresh := func(i int, g api.Sig) api.Sig {
		o, _ := calls[i](g)
		return o
	}
	for i := range calls {
		for j := range calls {
			g, asIs := roomy(some())
			a, e := calls[i](g)
			want := fresh(i, some())
			b, f := calls[j](g)
			if e != api.OK || f != api.OK || !sig.Same(a, want) || !sig.Same(g, some()) || !asIs() {
				t.Error(i, j, e, f, a)
			}
			spoil(b)
			if !sig.Same(a, want) || !sig.Same(g, some()) || !asIs() {
				t.Error(i, j, a)
			}
			spoil(g)
			if !sig.Same(a, want) {
				t.Error(i, j, a)
			}
			g, _ = roomy(fresh(i, some()))
			b, _ = calls[j](g)
			spoil(b)
			if !sig.Same(g, want) {
				t.Error(i, j, g)
			}
		}
	}
}

// P4.2 (R4): a macro that is handed in is copied, all of it; no two rows of an answer are one.
func TestMemoryOfMacro(t *testing.T) {
	m := some().Macros[1]
	m.Name = "n"
	g, e := sig.AddMacro(some(), m)
	want := some()
	want.Macros = append(want.Macros, some().Macros[1])
	want.Macros[2].Name = "n"
	spoil(api.Sig{Macros: []api.Macro{m}})
	if e != api.OK || !sig.Same(g, want) {
		t.Error(g, e)
	}
	one := list(sym("x"))
	ps := params(2)
	shared := api.Sig{Macros: []api.Macro{{Name: "a", Params: ps, Body: list(one, one)}, {Name: "b", Params: ps, Body: one}}}
	g, e = sig.AddMacro(shared, api.Macro{Name: "c", Params: ps, Body: one})
	if e != api.OK {
		t.Fatal(e)
	}
	g.Macros[0].Params[0].Name = "z"
	g.Macros[0].Body.L[0].L[0].Text = "z"
	if g.Macros[1].Params[0].Name != "p0" || g.Macros[2].Params[0].Name != "p0" || g.Macros[0].Body.L[1].L[0].Text != "x" || g.Macros[1].Body.L[0].Text != "x" || g.Macros[2].Body.L[0].Text != "x" {
		t.Error(g)
	}
}

// A draw gives numbers that are alike each time.
type draw uint64

// below is a number from 0 to n - 1.
func (d *draw) below(n int) int {
	*d = *d*6364136223846793005 + 1442695040888963407
	return int(uint64(*d) >> 33 % uint64(n))
}

// pool are names of all kinds, and some that are none.
var pool = strings.Fields("a b c d e f g h i j k l m n Bool Int and => let as a|b S T U V W")

func (d *draw) name() string {
	if d.below(60) > 0 {
		return pool[d.below(len(pool)-d.below(2)*12)] // mostly such as may be
	}
	return strings.Repeat("a", 99+d.below(3))
}

func (d *draw) sort(g api.Sig) int {
	if d.below(25) > 0 {
		return d.below(api.Own + len(g.Sorts))
	}
	return []int{-1, api.Own + len(g.Sorts), math.MinInt, math.MaxInt}[d.below(4)]
}

func (d *draw) fun(g api.Sig) api.Fun {
	f := api.Fun{Name: d.name(), Len: d.below(4), Res: d.sort(g)}
	for i := range f.Len {
		f.Args[i] = d.sort(g)
	}
	switch d.below(30) {
	case 0:
		f.Len = []int{-1, 4, math.MinInt, math.MaxInt}[d.below(4)]
	case 1:
		f.Args[d.below(3)] = 1
	}
	return f
}

func (d *draw) macro(g api.Sig) api.Macro {
	m := api.Macro{Name: d.name(), Res: d.sort(g), Body: list(sym("x"), sym("y"))}
	for range d.below(4) + max(0, d.below(40)-38) {
		m.Params = append(m.Params, api.Param{Name: d.name(), Sort: d.sort(g)})
	}
	if d.below(30) == 0 {
		m.Body = nest(60 + d.below(2))
	}
	return m
}

// sig is a signature, which mostly is as it may be.
func (d *draw) sig() (g api.Sig) {
	for range d.below(4) + max(0, d.below(30)-27) {
		g.Sorts = append(g.Sorts, d.name())
	}
	for range d.below(4) {
		g.Funs = append(g.Funs, d.fun(g))
	}
	for range d.below(3) {
		g.Macros = append(g.Macros, d.macro(g))
	}
	return g
}

// good are the errors of all that g says, as the chapter's words have it: of the
// names by holding each against each.
func good(g api.Sig) bool {
	ok := len(g.Sorts) <= 4 && len(g.Funs) <= 12 && len(g.Macros) <= 12
	is := func(s int) bool { return s >= 0 && s <= len(g.Sorts)+1 }
	name := func(s string) bool { return lex.May(s) && !lex.Reserved(s) }
	sorts, rest := append([]string{"Bool", "Int"}, g.Sorts...), strings.Fields(core)
	for _, f := range g.Funs {
		rest = append(rest, f.Name)
		ok = ok && f.Len >= 0 && f.Len <= 3 && is(f.Res)
		for i := range 3 {
			ok = ok && (i < f.Len || f.Args[i] == 0) && (i >= f.Len || is(f.Args[i]))
		}
	}
	for _, m := range g.Macros {
		rest = append(rest, m.Name)
		ok = ok && len(m.Params) <= 3 && is(m.Res) && sexpr.May(m.Body)
		var ps []string
		for _, p := range m.Params {
			ok = ok && !slices.Contains(ps, p.Name) && name(p.Name) && is(p.Sort)
			ps = append(ps, p.Name)
		}
	}
	for _, l := range [][]string{sorts, rest} {
		for i, s := range l {
			ok = ok && name(s) && !slices.Contains(l[:i], s)
		}
	}
	return ok
}

// P4.1, P4.2: made signatures, held against the words; what may be is just what
// can be put together by adding.
func TestMade(t *testing.T) {
	d, may := draw(1), 0
	for range 20000 {
		g := d.sig()
		if (sig.Check(g) == api.OK) != good(g) {
			t.Fatal(g, sig.Check(g))
		}
		built, e := api.Sig{}, api.OK
		for _, s := range g.Sorts {
			if e == api.OK {
				built, e = sig.AddSort(built, s)
			}
		}
		for _, f := range g.Funs {
			if e == api.OK {
				built, e = sig.AddFun(built, f)
			}
		}
		for _, m := range g.Macros {
			if e == api.OK {
				built, e = sig.AddMacro(built, m)
			}
		}
		if (e == api.OK) != good(g) || e == api.OK && !sig.Same(built, g) {
			t.Fatal(g, built, e)
		}
		if good(g) {
			may++
		}
		g.Sorts = append(g.Sorts, "")
		if s := d.name(); sig.Same(built, g) || good(api.Sig{Sorts: []string{s}}) != (sig.Free(api.Sig{}, s, true) == api.OK) || good(api.Sig{Funs: []api.Fun{{Name: s}}}) != (sig.Free(api.Sig{}, s, false) == api.OK) {
			t.Fatal(s)
		}
	}
	if may < 2000 || may > 18000 {
		t.Error(may) // else it tells little
	}
}

// found is where each name of the pool is in g, and what is free of it.
func found(g api.Sig) map[string][]any {
	l := map[string][]any{}
	for _, s := range pool {
		a, b := sig.Sort(g, s)
		c, d := sig.Fun(g, s)
		e, f := sig.Macro(g, s)
		l[s] = []any{a, b, c, d, e, f, sig.Free(g, s, true), sig.Free(g, s, false)}
	}
	return l
}

// P4.3: what was added is found, under its name alone, all else as before; Cut
// behind it is what was ahead.
func TestFollows(t *testing.T) {
	d, did := draw(7), 0
	for range 6000 {
		g := d.sig()
		if sig.Check(g) != api.OK {
			continue
		}
		f, m := d.fun(g), d.macro(g)
		kind := d.below(3)
		var o api.Sig
		var e api.Errno
		want := []any{0, false, 0, false, 0, false}
		switch kind {
		case 0:
			o, e = sig.AddSort(g, m.Name)
			want[0], want[1] = api.Own+len(g.Sorts), true
		case 1:
			m.Name = f.Name
			o, e = sig.AddFun(g, f)
			want[2], want[3] = len(g.Funs), true
		case 2:
			o, e = sig.AddMacro(g, m)
			want[4], want[5] = len(g.Macros), true
		}
		if e != api.OK || !slices.Contains(pool, m.Name) {
			continue
		}
		did++
		before, now := found(g), found(o)
		for s, was := range before {
			if s != m.Name && !reflect.DeepEqual(was, now[s]) {
				t.Fatal(g, s)
			}
		}
		was, is := before[m.Name], now[m.Name]
		for i := range want {
			if i/2 == kind && is[i] != want[i] || i/2 != kind && is[i] != was[i] {
				t.Fatal(g, m.Name, is)
			}
		}
		if kind == 0 && (is[6] != api.ErrThere || is[7] != was[7]) || kind > 0 && (is[6] != was[6] || is[7] != api.ErrThere) {
			t.Fatal(g, m.Name, is)
		}
		for s := range api.Own + len(g.Sorts) {
			a, _ := sig.SortName(g, s)
			if b, ok := sig.SortName(o, s); a != b || !ok {
				t.Fatal(g, s, b)
			}
		}
		if name, ok := sig.SortName(o, api.Own+len(g.Sorts)); ok != (kind == 0) || ok && name != m.Name {
			t.Fatal(g, name)
		}
		back, e := sig.Cut(o, len(g.Sorts), len(g.Funs), len(g.Macros))
		if e != api.OK || !sig.Same(back, g) || sig.Same(o, g) {
			t.Fatal(g, back, e)
		}
	}
	if did < 500 {
		t.Error(did)
	}
}

// R1: whatever is handed in, all calls end.
func TestStrange(t *testing.T) {
	_, ms := strange()
	g := api.Sig{Sorts: make([]string, 1<<16), Funs: make([]api.Fun, 1<<16), Macros: append(ms, make([]api.Macro, 1<<16)...)}
	for _, g := range []api.Sig{g, {Macros: ms}} {
		for _, s := range append(wrong, "", "x", "let", strings.Repeat("x", 1<<20)) {
			for _, find := range []func(api.Sig, string) (int, bool){sig.Sort, sig.Fun, sig.Macro} {
				find(g, s)
			}
			sig.Free(g, s, true)
			sig.Core(s)
			o, e := sig.AddSort(g, s)
			none(t, s, o, e, api.ErrArg)
			o, e = sig.AddFun(g, api.Fun{Name: s, Len: math.MaxInt})
			none(t, s, o, e, api.ErrArg)
		}
		for _, m := range ms {
			o, e := sig.AddMacro(g, m)
			none(t, m.Name, o, e, api.ErrArg)
		}
		for _, n := range []int{math.MinInt, -1, 0, math.MaxInt} {
			sig.SortName(g, n)
			o, e := sig.Cut(g, n, n, n)
			none(t, n, o, e, api.ErrArg)
		}
		if sig.Check(g) != api.ErrArg {
			t.Error("check")
		}
	}
}
