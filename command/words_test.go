package command_test

import (
	"math/big"
	"slices"
	"strings"
	"testing"

	"gantry/api"
	"gantry/command"
	"gantry/lex"
	"gantry/sexpr"
)

// table is the chapter's, a line each; S and name are names, N is a numeral, T
// any expression, .. as many as there are of what stands ahead.
const table = `
	(set-logic name)
	(set-option :budget N)
	(set-option :seeds (N ..))
	(declare-sort name 0)
	(declare-fun name (S ..) S)
	(define-fun name ((name S) ..) S T)
	(assert T)
	(push N)
	(pop N)
	(check-sat)
	(get-model)
	(get-value (T ..))
	(get-proof)
	(exit)`

var lines = reads(table)

// kinds are those of the lines.
var kinds = []int8{
	api.CmLogic, api.CmOption, api.CmOption, api.CmSort, api.CmFun, api.CmDefine, api.CmAssert, api.CmPush, api.CmPop,
	api.CmCheck, api.CmModel, api.CmValue, api.CmProof, api.CmExit,
}

// match puts what x has where the form p names something to found; false, if x
// is not of that form.
func match(p, x api.Sexp, found *[]api.Sexp) bool {
	any, ok := map[string]int8{"name": api.SxSym, "S": api.SxSym, "N": api.SxNum, "T": -1}[p.Text]
	switch {
	case p.Kind == api.SxSym && ok:
		*found = append(*found, x)
		return any == -1 || any == x.Kind
	case p.Kind != x.Kind || p.Text != x.Text:
		return false
	}
	l := p.L
	if n := len(l); n > 0 && l[n-1].Text == ".." {
		l = many(l[0], len(x.L))
	}
	return slices.EqualFunc(l, x.L, func(p, x api.Sexp) bool { return match(p, x, found) })
}

// below tells whether each of l is a number from 0 to most, and these.
func below(l []api.Sexp, most int64) (o []int, ok bool) {
	for _, x := range l {
		n, ok := new(big.Int).SetString(x.Text, 10)
		if !ok || n.Cmp(big.NewInt(most)) > 0 {
			return nil, false
		}
		o = append(o, int(n.Int64()))
	}
	return o, true
}

func texts(l []api.Sexp) (o []string) {
	for _, x := range l {
		o = append(o, x.Text)
	}
	return o
}

// made is what the table says of what was found; false, where a bound is passed.
func made(kind int8, option string, l []api.Sexp) (c api.Command, ok bool) {
	c, ok = api.Command{Kind: kind, Name: option}, true
	last := len(l) - 1
	switch kind {
	case api.CmLogic, api.CmSort:
		c.Name = l[0].Text
	case api.CmOption:
		if c.L, ok = below(l, 1<<20); ok && option == "budget" {
			c.L, c.N = nil, c.L[0]
		}
		ok = ok && len(c.L) <= 64
	case api.CmFun:
		c.Name, c.Args, c.Res = l[0].Text, texts(l[1:last]), l[last].Text
		ok = len(c.Args) <= 3
	case api.CmDefine:
		c.Name, c.Res, c.Terms = l[0].Text, l[last-1].Text, l[last:]
		for p := range slices.Chunk(l[1:last-1], 2) {
			c.Params = append(c.Params, [2]string{p[0].Text, p[1].Text})
		}
		ok = len(c.Params) <= 3
	case api.CmAssert, api.CmValue:
		c.Terms, ok = l, len(l) >= 1 && len(l) <= 16
	case api.CmPush, api.CmPop:
		if o, few := below(l, 8); few {
			c.N = o[0]
		} else {
			ok = false
		}
	}
	return c, ok
}

// parsed is Parse, as the chapter's words say it; false, if x is none.
func parsed(x api.Sexp) (api.Command, bool) {
	if !sexpr.May(x) {
		return api.Command{}, false
	}
	for i, p := range lines {
		var found []api.Sexp
		if !match(p, x, &found) {
			continue
		}
		option := ""
		if kinds[i] == api.CmOption {
			option = p.L[1].Text
		}
		if c, ok := made(kinds[i], option, found); ok {
			return c, true
		}
	}
	return api.Command{}, false
}

// may is May, as the chapter's words say it: what a list is parsed as has of
// the fields those that its kind names, and these are such as its parts are.
func may(c api.Command) bool {
	names, deep := []string{c.Name, c.Res}, 1
	n, most, l := 0, 0, 0
	least, terms := 0, 0
	o := c // without what its kind names
	o.Kind = 0
	switch c.Kind {
	case api.CmLogic, api.CmSort:
		o.Name = ""
	case api.CmOption:
		o.Name = ""
		switch c.Name {
		case "budget":
			o.N, n, most = 0, c.N, 1<<20
		case "seeds":
			o.L, l, most = nil, len(c.L), 1<<20
		default:
			return false
		}
	case api.CmFun:
		o.Name, o.Args, o.Res = "", nil, ""
		names = append(names, c.Args...)
	case api.CmDefine:
		o.Name, o.Params, o.Res, o.Terms = "", nil, "", nil
		for _, p := range c.Params {
			names = append(names, p[:]...)
		}
		least, terms = 1, 1
	case api.CmAssert:
		o.Terms, least, terms = nil, 1, 1
	case api.CmPush, api.CmPop:
		o.N, n, most = 0, c.N, 8
	case api.CmValue:
		o.Terms, least, terms, deep = nil, 1, 16, 2
	case api.CmCheck, api.CmModel, api.CmProof, api.CmExit:
	default:
		return false
	}
	out := func(n int) bool { return n < 0 || n > most }
	none := func(s string) bool { return !lex.May(s) }
	no := func(x api.Sexp) bool { return !sexpr.May(x) || sexpr.Depth(x)+deep > 60 }
	return same(o, api.Command{}) && !out(n) && l <= 64 && !slices.ContainsFunc(c.L, out) && !slices.ContainsFunc(names, none) &&
		len(c.Args) <= 3 && len(c.Params) <= 3 && len(c.Terms) >= least && len(c.Terms) <= terms && !slices.ContainsFunc(c.Terms, no)
}

// hold holds Parse of x, and what follows, against the words.
func hold(t *testing.T, x api.Sexp) bool {
	t.Helper()
	want, ok := parsed(x)
	c, e := command.Parse(x)
	if !ok {
		if e != api.ErrForm || !nothing(c) {
			t.Fatalf("%s: %v %v", show(x), c, e)
		}
		return false
	}
	if !same(c, want) || e != api.OK || !command.May(c) || !may(c) {
		t.Fatalf("%s: %v %v, not %v", show(x), c, e, want)
	}
	if y, e := command.Sexp(c); show(x) != show(y) || e != api.OK {
		t.Fatalf("%s: %v %v", show(x), y, e)
	}
	s, e := command.Text(c)
	if u, f := sexpr.Text(x); s != u || e != f {
		t.Fatalf("%q %v, not %q %v", s, e, u, f)
	}
	return true
}

// P8.1, P8.2, P8.3: each list of each head and up to four of many parts, five
// where a form has four.
func TestWordsShort(t *testing.T) {
	heads := strings.Fields("set-logic set-option declare-sort declare-fun assert push pop check-sat get-model get-value get-proof exit reset")
	parts := reads("a |0| 0 9 1048577 :budget :seeds () (a) (1 b) ((a b))")
	most := 4
	if testing.Short() {
		most = 3
	}
	did := 0
	var grow func(x api.Sexp, more int)
	grow = func(x api.Sexp, more int) {
		if hold(t, x) {
			did++
		}
		for _, p := range parts {
			if more > 0 {
				grow(with(x, p), more-1)
			}
		}
	}
	for _, h := range heads {
		grow(list(sym(h)), most-1)
	}
	grow(list(sym("define-fun")), most+1)
	grow(list(), 2)
	if did < 30 {
		t.Error(did)
	}
}

// A draw gives numbers that are alike each time.
type draw uint64

// below is a number from 0 to n - 1.
func (d *draw) below(n int) int {
	*d = *d*6364136223846793005 + 1442695040888963407
	return int(uint64(*d) >> 33 % uint64(n))
}

// changed is x with something within it left out, put in, or put for another.
func (d *draw) changed(x api.Sexp, pool []api.Sexp) api.Sexp {
	if len(x.L) == 0 || d.below(8) == 0 {
		return pool[d.below(len(pool))]
	}
	i := d.below(len(x.L))
	switch d.below(6) {
	case 0:
		return at(x, i)
	case 1:
		return at(x, i, x.L[i], pool[d.below(len(pool))])
	case 2:
		return at(x, i, x.L[i], x.L[i])
	case 3:
		return at(x, i, x.L[d.below(len(x.L))])
	}
	return at(x, i, d.changed(x.L[i], pool))
}

// P8.1, P8.2, P8.3: commands that are changed here and there, one behind the
// other.
func TestWordsLong(t *testing.T) {
	pool := append(reads("a |a b| || let 0 1 8 9 1048576 1048577 4611686018427387905 :budget :seeds :k () (a) (1) (7 8) ((a b)) ((a b) (c d)) (set-logic a) push"), sym("|"), digits("01"), api.Sexp{Kind: 4}, api.Sexp{Kind: api.SxList, Text: "x"})
	var all []api.Sexp
	for s := range forms() {
		all = append(all, read(s))
	}
	slices.SortFunc(all, func(x, y api.Sexp) int { return strings.Compare(show(x), show(y)) })
	var d draw
	var did [2]int
	for range 40000 {
		x := all[d.below(len(all))]
		for range 1 + d.below(3) {
			x = d.changed(x, pool)
		}
		if hold(t, x) {
			did[1]++
		} else {
			did[0]++
		}
	}
	if did[0] < 3000 || did[1] < 3000 {
		t.Error(did)
	}
}

// P8.1, P8.2, P8.3: each kind with many fields, each filled in several ways.
func TestWordsCommands(t *testing.T) {
	tt := reads("t (f t) ()")
	var did [2]int
	for kind := int8(-1); kind <= 14; kind++ {
		for _, name := range []string{"", "budget", "seeds", "a|"} {
			for _, n := range []int{0, 8, 9, -1, 1 << 20, 1<<20 + 1} {
				for _, l := range [][]int{nil, {1, 2}, {-1}, {1<<20 + 1}} {
					for _, args := range [][]string{nil, {"A", "B"}, {"|"}, make([]string, 4)} {
						for _, params := range [][][2]string{nil, {{"a", "A"}}, {{"|", "A"}}, {{"a", "|"}}, make([][2]string, 4)} {
							for _, res := range []string{"", "S", `\`} {
								for _, terms := range [][]api.Sexp{nil, tt[:1], tt, {digits("")}} {
									c := api.Command{Kind: kind, Name: name, N: n, L: l, Args: args, Params: params, Res: res, Terms: terms}
									if command.May(c) != may(c) {
										t.Fatalf("%s: %v", showAll(c), !may(c))
									}
									if may(c) {
										did[1]++
									} else {
										did[0]++
										continue
									}
									x, e := command.Sexp(c)
									if o, ok := parsed(x); e != api.OK || !ok || !same(o, c) {
										t.Fatalf("%s: %s %v", showAll(c), show(x), e)
									}
								}
							}
						}
					}
				}
			}
		}
	}
	if did[0] < 100000 || did[1] < 40 {
		t.Error(did)
	}
}
