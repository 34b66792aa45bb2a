package sexpr_test

import (
	"math"
	"strings"
	"testing"

	"gantry/api"
	"gantry/lex"
	"gantry/num"
	"gantry/sexpr"
)

func rep(s string, n int) string { return strings.Repeat(s, n) }

func sym(s string) api.Sexp         { return api.Sexp{Kind: api.SxSym, Text: s} }
func number(s string) api.Sexp      { return api.Sexp{Kind: api.SxNum, Text: s} }
func key(s string) api.Sexp         { return api.Sexp{Kind: api.SxKey, Text: s} }
func list(l ...api.Sexp) api.Sexp   { return api.Sexp{Kind: api.SxList, L: l} }
func nest(x api.Sexp, n int) string { return rep("(", n) + plain(x) + rep(")", n) }

// around is x within n lists.
func around(x api.Sexp, n int) api.Sexp {
	for range n {
		x = list(x)
	}
	return x
}

// alike is Same, as P3.1 says it, but for what never ends.
func alike(a, b api.Sexp) bool {
	if a.Kind != b.Kind || a.Text != b.Text || len(a.L) != len(b.L) {
		return false
	}
	for i := range a.L {
		if !alike(a.L[i], b.L[i]) {
			return false
		}
	}
	return true
}

// plain is Text, as the chapter's words say it, but for what may not be.
func plain(x api.Sexp) string {
	switch x.Kind {
	case api.SxSym:
		return lex.Quote(x.Text)
	case api.SxNum:
		return x.Text
	case api.SxKey:
		return ":" + x.Text
	}
	l := make([]string, len(x.L))
	for i, y := range x.L {
		l[i] = plain(y)
	}
	return "(" + strings.Join(l, " ") + ")"
}

// may is May, as P3.1 says it: at most deep lists within each other.
func may(x api.Sexp, deep int) bool {
	if x.Kind != api.SxList && len(x.L) > 0 || x.Kind == api.SxList && x.Text != "" {
		return false
	}
	signs := strings.TrimFunc(x.Text, func(r rune) bool { return r < 0x80 && lex.Sign(byte(r)) }) == ""
	_, e := num.Parse(x.Text)
	switch x.Kind {
	case api.SxSym:
		return lex.May(x.Text)
	case api.SxNum:
		return e != api.ErrLex && len(x.Text) <= 100
	case api.SxKey:
		return signs && len(x.Text) > 0 && len(x.Text) <= 100
	case api.SxList:
		for _, y := range x.L {
			if !may(y, deep-1) {
				return false
			}
		}
		return deep > 0
	}
	return false
}

// tall is Depth, as the chapter's words say it.
func tall(x api.Sexp) int {
	if x.Kind != api.SxList {
		return 0
	}
	n := 0
	for _, y := range x.L {
		n = max(n, tall(y))
	}
	return n + 1
}

// read is Read, as P3.2 says it, of at from 0 on; but for ErrDeep, which is
// asked of what has been read.
func read(s string, at int) (api.Sexp, int, api.Errno) {
	t, ok, e := lex.Next(s, at)
	if e == api.OK && ok && t.Kind == api.TkClose {
		return api.Sexp{}, t.At, api.ErrLex
	}
	x, end, e := readOne(s, at)
	if e == api.OK && tall(x) > api.MaxDepth {
		return api.Sexp{}, end, api.ErrDeep
	}
	return x, end, e
}

func readOne(s string, at int) (api.Sexp, int, api.Errno) {
	t, ok, e := lex.Next(s, at)
	if e != api.OK {
		return api.Sexp{}, t.At, e
	}
	if !ok {
		return api.Sexp{}, len(s), api.ErrOpen
	}
	switch t.Kind {
	case api.TkName:
		return sym(t.Text), t.End, api.OK
	case api.TkNum:
		return number(t.Text), t.End, api.OK
	case api.TkKey:
		return key(t.Text), t.End, api.OK
	}
	x := list()
	for end := t.End; ; {
		if t, ok, e = lex.Next(s, end); ok && t.Kind == api.TkClose {
			return x, t.End, api.OK
		}
		y, to, e := readOne(s, end)
		if e != api.OK {
			return api.Sexp{}, to, e
		}
		x.L = append(x.L, y)
		end = to
	}
}

// hold holds Read at each place of s, All, and what follows, against the words.
func hold(t *testing.T, s string) {
	t.Helper()
	for at := range len(s) + 2 {
		x, end, e := sexpr.Read(s, at)
		if y, to, f := read(s, at); !alike(x, y) || end != to || e != f {
			t.Fatalf("Read %q %d: %v %d %v, not %v %d %v", s, at, x, end, e, y, to, f)
		}
		if e == api.OK {
			holdText(t, x)
		}
	}
	var want []api.Sexp
	end, f := lex.Skip(s, 0), api.OK
	for end < len(s) && f == api.OK {
		var x api.Sexp
		var to int
		if x, to, f = read(s, end); f == api.OK {
			want, end = append(want, x), lex.Skip(s, to)
		}
	}
	if l, at, e := sexpr.All(s); !alike(list(l...), list(want...)) || at != end || e != f {
		t.Fatalf("All %q: %v %d %v, not %v %d %v", s, l, at, e, want, end, f)
	}
}

// holdText holds what is told of x, which has been read, against the words.
func holdText(t *testing.T, x api.Sexp) {
	t.Helper()
	if !sexpr.May(x) || sexpr.Depth(x) != tall(x) || !sexpr.Same(x, x) {
		t.Fatalf("%v: %v %d", x, sexpr.May(x), sexpr.Depth(x))
	}
	s, e := sexpr.Text(x)
	if len(plain(x)) > api.MaxText {
		if s != "" || e != api.ErrLong {
			t.Fatalf("%.99q %v", s, e)
		}
		return
	}
	if s != plain(x) || e != api.OK {
		t.Fatalf("%q %v, not %q", s, e, plain(x))
	}
	if y, end, e := sexpr.Read(s, 0); !sexpr.Same(x, y) || !alike(x, y) || end != len(s) || e != api.OK {
		t.Fatalf("%q: %v %d %v", s, y, end, e)
	}
}

// P3.1, P3.2, P3.3, P3.4: all short texts over what matters.
func TestShortTexts(t *testing.T) {
	const bytes = "()a0:|; \n"
	most := 6
	if testing.Short() {
		most = 4
	}
	var grow func(s string)
	grow = func(s string) {
		hold(t, s)
		if len(s) < most {
			for i := range len(bytes) {
				grow(s + bytes[i:i+1])
			}
		}
	}
	grow("")
}

// P3.1, P3.2, P3.3, P3.4: longer texts, put together from tokens and what is
// none, by a rule that is always the same.
func TestLongTexts(t *testing.T) {
	parts := []string{
		"(", "(", "(", ")", ")", ")", "()", "a", "|a b|", "||", "let", "|let|", "|7|", "_", "7", "0", "10", "4611686018427387905", ":k", ":7", ":let",
		" ", "\n", "\t\r", "; (\n", ";)|\n", "-", "(a", "b)", "(let ((x 1)) x)", rep("(", 61), rep(")", 61), rep("(", 60) + rep(")", 60), "é", "[", "007", "|",
	}
	seed := uint32(1)
	for range 1500 {
		s := ""
		for range 12 {
			seed = seed*1664525 + 1013904223
			s += parts[int(seed>>8)%len(parts)]
			if seed>>30 == 0 {
				s += " "
			}
		}
		hold(t, s)
	}
}

// P3.1, P3.2, P3.3, P3.4: what may be: it is read from its text, and from no
// other kind's.
func TestMay(t *testing.T) {
	a100, d100 := rep("a", 100), rep("9", 100)
	for s, x := range map[string]api.Sexp{
		"a": sym("a"), "=>": sym("=>"), "-1": sym("-1"), a100: sym(a100), "|" + rep(" ", 100) + "|": sym(rep(" ", 100)),
		"||": sym(""), "|a b|": sym("a b"), "|(|": sym("("), "|a;\n|": sym("a;\n"), "|0|": sym("0"), "|:k|": sym(":k"), "|1a|": sym("1a"),
		"let": sym("let"), "_": sym("_"), "!": sym("!"), "as": sym("as"), "exists": sym("exists"), "forall": sym("forall"), "match": sym("match"), "par": sym("par"),
		"0": number("0"), "7": number("7"), "10": number("10"), "4611686018427387904": number("4611686018427387904"), "4611686018427387905": number("4611686018427387905"), d100: number(d100),
		":k": key("k"), ":007": key("007"), ":-": key("-"), ":let": key("let"), ":" + a100: key(a100),
		"()": list(), "(a)": list(sym("a")), "(a 7 :k)": list(sym("a"), number("7"), key("k")), "(())": list(list()), "(() ())": list(list(), list()),
		"(let ((x 1)) (= x |x y|))": list(sym("let"), list(list(sym("x"), number("1"))), list(sym("="), sym("x"), sym("x y"))),
		"(0 0)":                     list(number("0"), number("0")), "(|| ||)": list(sym(""), sym("")),
	} {
		if !sexpr.May(x) || !may(x, 60) {
			t.Errorf("%q: may not be", s)
		}
		if u, e := sexpr.Text(x); u != s || e != api.OK {
			t.Errorf("%q: %q %v", s, u, e)
		}
		if y, end, e := sexpr.Read(s, 0); !alike(x, y) || end != len(s) || e != api.OK {
			t.Errorf("%q: %v %d %v", s, y, end, e)
		}
		if sexpr.Depth(x) != tall(x) {
			t.Errorf("%q: %d", s, sexpr.Depth(x))
		}
	}
}

// none are expressions that may not be.
func none() []api.Sexp {
	a := sym("a")
	return []api.Sexp{
		{Kind: 4}, {Kind: 4, Text: "a"}, {Kind: 4, L: []api.Sexp{a}}, {Kind: -1}, {Kind: -1, Text: "a"}, {Kind: -1, L: []api.Sexp{a}}, {Kind: math.MaxInt8}, {Kind: math.MinInt8},
		sym("|"), sym("a|"), sym(`\`), sym("a\\b"), sym("\x00"), sym("\x7f"), sym("é"), sym("\xff"), sym(rep("a", 101)), sym(rep(" ", 101)), sym(rep("a", 1<<16)),
		number(""), number("00"), number("007"), number("01"), number("-1"), number("+1"), number("1a"), number("a"), number(" 1"), number("1 "), number("1.0"), number("(- 1)"), number(rep("9", 101)), number("1" + rep("0", 100)), number(rep("0", 100)), number(rep("1", 1<<16)),
		key(""), key(" "), key("a b"), key(":k"), key("k:"), key("|k|"), key("a\n"), key("é"), key("("), key(";"), key("\x00"), key(rep("k", 101)), key(rep("k", 1<<16)),
		{Kind: api.SxSym, Text: "a", L: []api.Sexp{a}}, {Kind: api.SxSym, L: []api.Sexp{{}}}, {Kind: api.SxNum, Text: "1", L: []api.Sexp{a}}, {Kind: api.SxKey, Text: "k", L: []api.Sexp{a}},
		{Kind: api.SxSym, Text: "a", L: []api.Sexp{list()}}, {Kind: api.SxNum, Text: "1", L: []api.Sexp{list()}}, {Kind: api.SxKey, Text: "k", L: []api.Sexp{list()}},
		{Kind: api.SxList, Text: "a"}, {Kind: api.SxList, Text: " "}, {Kind: api.SxList, Text: "(a)", L: []api.Sexp{a}},
	}
}

// P3.1, P3.3: what may not be, alone, and within lists that may.
func TestMayNot(t *testing.T) {
	for i, x := range none() {
		for j, y := range []api.Sexp{x, list(x), list(sym("a"), x), list(x, sym("a")), list(list(), list(sym("a"), list(x)), sym("b")), around(x, 59)} {
			if sexpr.May(y) || may(y, 60) {
				t.Errorf("%d %d: %v may be", i, j, y)
			}
			if s, e := sexpr.Text(y); s != "" || e != api.ErrArg {
				t.Errorf("%d %d: %q %v", i, j, s, e)
			}
			if sexpr.Depth(y) != tall(y) {
				t.Errorf("%d %d: %d, not %d", i, j, sexpr.Depth(y), tall(y))
			}
			if !sexpr.Same(y, y) || sexpr.Same(y, list(y)) || sexpr.Same(list(y), y) {
				t.Errorf("%d %d: %v is not the same", i, j, y)
			}
		}
	}
}

// P3.1: each byte, in a name, a numeral and a keyword, at each end.
func TestMayBytes(t *testing.T) {
	for b := range 256 {
		c := string([]byte{byte(b)})
		for _, s := range []string{c, c + "1", "1" + c, "a" + c + "a"} {
			for _, x := range []api.Sexp{sym(s), number(s), key(s), {Kind: api.SxList, Text: s}} {
				if sexpr.May(x) != may(x, 60) {
					t.Errorf("%v %q: %v", x.Kind, s, sexpr.May(x))
				}
			}
		}
	}
}

// P3.1, P3.3: what has the most of what there may be, and one more.
func TestMayDepth(t *testing.T) {
	for _, c := range []struct {
		x    api.Sexp
		want int
	}{
		{sym("a"), 0}, {number("1"), 0}, {key("k"), 0}, {list(), 1}, {list(sym("a")), 1}, {list(list()), 2}, {list(list(sym("a"))), 2},
		{list(sym("a"), list(), sym("b")), 2}, {list(list(list()), list()), 3}, {list(list(), list(list())), 3},
		{around(sym("a"), 59), 59}, {around(list(), 58), 59}, {around(sym("a"), 60), 60}, {around(list(), 59), 60}, {around(sym("a"), 61), 61}, {around(list(), 60), 61},
		{list(sym("a"), around(sym("a"), 59), sym("b")), 60}, {list(around(sym("a"), 59), around(sym("a"), 60), sym("b")), 61}, {around(list(list(), list(list(), list())), 58), 61},
		{around(sym("a"), 1000), 1000}, {around(list(), 100000), 100001},
		// an expression that is no list has none, whatever is in it
		{api.Sexp{Kind: api.SxSym, L: []api.Sexp{list()}}, 0}, {api.Sexp{Kind: api.SxNum, L: []api.Sexp{list()}}, 0}, {api.Sexp{Kind: api.SxKey, L: []api.Sexp{list()}}, 0}, {api.Sexp{Kind: 4, L: []api.Sexp{list()}}, 0}, {api.Sexp{Kind: -1, L: []api.Sexp{list()}}, 0},
		{list(api.Sexp{Kind: 4, L: []api.Sexp{list()}}), 1}, {list(api.Sexp{Kind: api.SxSym, L: []api.Sexp{list()}}), 1},
	} {
		if n := sexpr.Depth(c.x); n != c.want || n != tall(c.x) {
			t.Errorf("%d, not %d", n, c.want)
		}
		if sexpr.May(c.x) != may(c.x, 60) {
			t.Errorf("of depth %d: %v", c.want, sexpr.May(c.x))
		}
		s, e := sexpr.Text(c.x)
		if may(c.x, 60) && (s != plain(c.x) || e != api.OK) || !may(c.x, 60) && (s != "" || e != api.ErrArg) {
			t.Errorf("of depth %d: %q %v", c.want, s, e)
		}
	}
}

// P3.1: all fields; nil and empty mean the same.
func TestSame(t *testing.T) {
	a := sym("a")
	all := append(none(),
		api.Sexp{}, a, sym("b"), sym("A"), sym("aa"), sym("7"), number("7"), key("7"), key("a"), api.Sexp{Kind: 4, Text: "7"}, api.Sexp{Kind: api.SxList, Text: "7"},
		list(), list(a), list(sym("b")), list(number("7")), list(key("7")), list(a, a), list(a, sym("b")), list(sym("b"), a), list(sym("b"), sym("b")), list(a, a, a), list(a, a, sym("b")),
		list(list()), list(list(), list()), list(list(list())), list(list(a)), list(list(a), a), list(list(a, a)), list(list(a), list(a)), list(list(a), list(sym("b"))), list(a, list(a)), list(a, list(sym("b"))), list(list(), a), list(a, list()),
		api.Sexp{Kind: api.SxSym, Text: "a", L: []api.Sexp{sym("b")}}, api.Sexp{Kind: api.SxSym, Text: "a", L: []api.Sexp{list(a)}}, api.Sexp{Kind: api.SxSym, Text: "a", L: []api.Sexp{list(sym("b"))}},
		api.Sexp{Kind: 4, L: []api.Sexp{list(a)}}, api.Sexp{Kind: 4, L: []api.Sexp{list(sym("b"))}}, api.Sexp{Kind: 4, L: []api.Sexp{list(a), list(a)}},
		around(a, 100), around(sym("b"), 100), around(a, 101), around(list(), 100),
	)
	for i, x := range all {
		for j, y := range all {
			if sexpr.Same(x, y) != alike(x, y) {
				t.Errorf("%d %d: %v %v: %v", i, j, x, y, sexpr.Same(x, y))
			}
		}
	}
	for _, y := range []api.Sexp{{Kind: api.SxList}, {Kind: api.SxList, L: []api.Sexp{}}, {Kind: api.SxList, L: make([]api.Sexp, 0, 3)}} {
		if !sexpr.Same(list(), y) || !sexpr.Same(y, list()) || !sexpr.Same(list(y, a), list(list(), a)) {
			t.Error(y)
		}
	}
}

// P3.1: of a list whose first one is a name that name; else empty.
func TestHead(t *testing.T) {
	a := sym("a")
	for _, c := range []struct {
		x    api.Sexp
		want string
	}{
		{list(a), "a"}, {list(sym("and"), a), "and"}, {list(sym("let"), list()), "let"}, {list(sym("x y")), "x y"}, {list(sym("")), ""}, {list(sym("7"), number("8")), "7"},
		{list(), ""}, {list(number("7")), ""}, {list(key("k")), ""}, {list(number("7"), a), ""}, {list(key("k"), a), ""}, {list(list(a)), ""}, {list(list(), a), ""}, {list(list(a), a), ""},
		{a, ""}, {number("7"), ""}, {key("k"), ""}, {api.Sexp{}, ""}, {list(api.Sexp{Kind: 4, Text: "a"}), ""}, {list(api.Sexp{Kind: -1, Text: "a"}), ""}, {list(api.Sexp{Kind: api.SxList, Text: "a"}), ""},
		{api.Sexp{Kind: api.SxSym, Text: "b", L: []api.Sexp{a}}, ""}, {api.Sexp{Kind: 4, L: []api.Sexp{a}}, ""}, {api.Sexp{Kind: -1, L: []api.Sexp{a}}, ""},
		{around(a, 2), ""}, {list(a, around(a, 99)), "a"},
	} {
		if s := sexpr.Head(c.x); s != c.want {
			t.Errorf("%v: %q, not %q", c.x, s, c.want)
		}
	}
}

// P3.2: what is read, and where it ends.
func TestRead(t *testing.T) {
	a := sym("a")
	for _, c := range []struct {
		s    string
		at   int
		want api.Sexp
		end  int
	}{
		{"(a (b) 7) x", 0, list(a, list(sym("b")), number("7")), 9},
		{"a", 0, a, 1}, {" a ", 0, a, 2}, {"a b", 0, a, 1}, {"a b", 1, sym("b"), 3}, {"a b", 2, sym("b"), 3}, {"ab", 1, sym("b"), 2},
		{"a)", 0, a, 1}, {"a(", 0, a, 1}, {"a é", 0, a, 1}, {"()", 0, list(), 2}, {"())", 0, list(), 2}, {"()(", 0, list(), 2}, {"() 007", 0, list(), 2}, {"(a)|", 0, list(a), 3},
		{"(a b)", 1, a, 2}, {"(a b)", 2, sym("b"), 4}, {"((a) b)", 1, list(a), 4},
		{" ; (\n( ; )\n ) ;", 0, list(), 13}, {";a\na", 0, a, 4}, {";a\na", 1, a, 2}, {"(a;b)\n)", 0, list(a), 7},
		{"(|)|)", 0, list(sym(")")), 5}, {"|(|", 0, sym("("), 3}, {"(|;|)", 0, list(sym(";")), 5},
		{"(a:k 7)", 0, list(a, key("k"), number("7")), 7}, {"(:a:b)", 0, list(key("a"), key("b")), 6}, {"(a|b|c)", 0, list(a, sym("b"), sym("c")), 7}, {"(7(8)9)", 0, list(number("7"), list(number("8")), number("9")), 7},
		{"|let|", 0, sym("let"), 5}, {"let", 0, sym("let"), 3}, {"|a|", 0, a, 3}, {"||", 0, sym(""), 2}, {"(0 10 -1)", 0, list(number("0"), number("10"), sym("-1")), 9},
		{"(\t\r\n)", 0, list(), 5}, {"007", 2, number("7"), 3}, {"(())", 1, list(), 3}, {"(()())", 0, list(list(), list()), 6}, {"((()))()", 0, list(list(list())), 6},
		{"((a b) (c (d)) () e)", 0, list(list(a, sym("b")), list(sym("c"), list(sym("d"))), list(), sym("e")), 20},
		{rep(" ", 1000) + "a", 0, a, 1001}, {rep(";(\n", 1000) + "a", 0, a, 3001},
		{nest(a, 60) + ")", 0, around(a, 60), 121}, {nest(list(), 59), 0, around(list(), 59), 120},
		{"(" + nest(a, 59) + nest(a, 59) + ")", 0, list(around(a, 59), around(a, 59)), 240},
	} {
		if x, end, e := sexpr.Read(c.s, c.at); !alike(x, c.want) || end != c.end || e != api.OK {
			t.Errorf("%q %d: %v %d %v", c.s, c.at, x, end, e)
		}
		hold(t, c.s)
	}
}

// P3.2: what is not read; where that is told, and that nothing is told beside.
func TestReadErrors(t *testing.T) {
	deep := rep("(", 61)
	for _, c := range []struct {
		s   string
		at  int
		end int
		e   api.Errno
	}{
		{"a", -1, 0, api.ErrArg}, {"", -1, 0, api.ErrArg}, {")", -1, 0, api.ErrArg}, {"(", math.MinInt, 0, api.ErrArg}, {deep, -60, 0, api.ErrArg}, {"é", -1, 0, api.ErrArg},
		{"", 0, 0, api.ErrOpen}, {"", 1, 0, api.ErrOpen}, {"", math.MaxInt, 0, api.ErrOpen}, {"a", 1, 1, api.ErrOpen}, {"a", 2, 1, api.ErrOpen}, {"a", math.MaxInt, 1, api.ErrOpen}, {")", 1, 1, api.ErrOpen}, {"é", 2, 2, api.ErrOpen},
		{" \t\r\n", 0, 4, api.ErrOpen}, {"; a", 0, 3, api.ErrOpen}, {"; a\n", 0, 4, api.ErrOpen}, {"a ; b", 1, 5, api.ErrOpen}, {"() ", 2, 3, api.ErrOpen},
		{")", 0, 0, api.ErrLex}, {" )", 0, 1, api.ErrLex}, {"; (\n)a", 0, 4, api.ErrLex}, {"())", 2, 2, api.ErrLex}, {"() )", 2, 3, api.ErrLex}, {"(a)", 2, 2, api.ErrLex}, {")(", 0, 0, api.ErrLex}, {") é", 0, 0, api.ErrLex},
		{"007", 0, 0, api.ErrLex}, {" 1a", 0, 1, api.ErrLex}, {":", 0, 0, api.ErrLex}, {" : k", 0, 1, api.ErrLex}, {"|a", 0, 0, api.ErrLex}, {"é", 0, 0, api.ErrLex}, {" \x00", 0, 1, api.ErrLex}, {"[", 0, 0, api.ErrLex}, {"\"a\"", 0, 0, api.ErrLex},
		{rep("a", 101), 0, 0, api.ErrLex}, {"|" + rep("a", 101) + "|", 0, 0, api.ErrLex}, {rep("1", 101), 0, 0, api.ErrLex}, {":" + rep("a", 101), 0, 0, api.ErrLex}, {"(" + rep("a", 101) + ")", 0, 1, api.ErrLex},
		{"(", 0, 1, api.ErrOpen}, {"(a", 0, 2, api.ErrOpen}, {"( ", 0, 2, api.ErrOpen}, {"(a ; )", 0, 6, api.ErrOpen}, {"(()", 0, 3, api.ErrOpen}, {"((a) ", 0, 5, api.ErrOpen}, {"(((", 1, 3, api.ErrOpen}, {"(a (b c", 0, 7, api.ErrOpen}, {"a (", 1, 3, api.ErrOpen},
		{"(a [", 0, 3, api.ErrLex}, {"([)", 0, 1, api.ErrLex}, {"(a) (b 007)", 3, 7, api.ErrLex}, {"(a 1b", 0, 3, api.ErrLex}, {"(a |b)", 0, 3, api.ErrLex}, {"((((a) :", 0, 7, api.ErrLex}, {"(a ; [\n [", 0, 8, api.ErrLex}, {"(a (b) é (", 0, 7, api.ErrLex},
		{nest(sym("a"), 61), 0, 123, api.ErrDeep}, {" " + nest(list(), 60) + " b", 0, 123, api.ErrDeep}, {nest(sym("a"), 61) + ")", 0, 123, api.ErrDeep}, {nest(sym("a"), 61) + "(", 0, 123, api.ErrDeep}, {nest(sym("a"), 61) + "é", 0, 123, api.ErrDeep},
		{"(a " + nest(list(), 59) + " (b) c) d", 0, 130, api.ErrDeep}, {"(" + nest(list(), 59) + nest(list(), 59) + ")", 0, 242, api.ErrDeep}, {nest(sym("a"), 62), 0, 125, api.ErrDeep},
		{nest(list(sym("a"), sym("b"), list(list(), number("7")), key("k")), 60), 0, 60 + len("(a b (() 7) :k)") + 60, api.ErrDeep},
		{deep, 0, 61, api.ErrOpen}, {deep + rep(")", 60), 0, 121, api.ErrOpen}, {deep + "[", 0, 61, api.ErrLex}, {deep + rep(")", 60) + " 007)", 0, 122, api.ErrLex}, {deep + rep(")", 60) + "|", 0, 121, api.ErrLex},
		{nest(list(), 99999), 0, 200000, api.ErrDeep}, {rep("(", 100000), 0, 100000, api.ErrOpen}, {rep("(", 100000) + "é", 0, 100000, api.ErrLex},
	} {
		x, end, e := sexpr.Read(c.s, c.at)
		if x.Kind != 0 || x.Text != "" || len(x.L) > 0 || end != c.end || e != c.e {
			t.Errorf("%.150q %d: %v %d %v, not %d %v", c.s, c.at, x, end, e, c.end, c.e)
		}
		if len(c.s) < 1000 {
			hold(t, c.s)
		}
	}
	// one that is not too deep is read within one that is, and behind it
	if x, end, e := sexpr.Read(nest(sym("a"), 61)+"b", 1); !alike(x, around(sym("a"), 60)) || end != 122 || e != api.OK {
		t.Error(x, end, e)
	}
	if x, end, e := sexpr.Read(nest(sym("a"), 61)+"b", 123); !alike(x, sym("b")) || end != 124 || e != api.OK {
		t.Error(x, end, e)
	}
}

// P3.3: expressions up to the first error, and where that one began.
func TestAll(t *testing.T) {
	a, b := sym("a"), sym("b")
	deep := nest(a, 61)
	for _, c := range []struct {
		s    string
		want []api.Sexp
		end  int
		e    api.Errno
	}{
		{"", nil, 0, api.OK}, {" ", nil, 1, api.OK}, {"; a", nil, 3, api.OK}, {" ; a\n\t", nil, 6, api.OK},
		{"a", []api.Sexp{a}, 1, api.OK}, {"a ", []api.Sexp{a}, 2, api.OK}, {" a b", []api.Sexp{a, b}, 4, api.OK}, {"a;b", []api.Sexp{a}, 3, api.OK}, {"a;b\nb", []api.Sexp{a, b}, 5, api.OK},
		{"()()", []api.Sexp{list(), list()}, 4, api.OK}, {"(a) (b)\n", []api.Sexp{list(a), list(b)}, 8, api.OK}, {"a(b)a", []api.Sexp{a, list(b), a}, 5, api.OK}, {"a 7 :k ()", []api.Sexp{a, number("7"), key("k"), list()}, 9, api.OK},
		{"a (b", []api.Sexp{a}, 2, api.ErrOpen}, {"(", nil, 0, api.ErrOpen}, {" (", nil, 1, api.ErrOpen}, {"; c\n (a) ; d\n (b", []api.Sexp{list(a)}, 14, api.ErrOpen}, {"(a (b)", nil, 0, api.ErrOpen},
		{")", nil, 0, api.ErrLex}, {"a )", []api.Sexp{a}, 2, api.ErrLex}, {"(a) ) (b", []api.Sexp{list(a)}, 4, api.ErrLex}, {"(a))", []api.Sexp{list(a)}, 3, api.ErrLex}, {"a 007 b", []api.Sexp{a}, 2, api.ErrLex}, {" é", nil, 1, api.ErrLex},
		// that one began where its list did, not at its token that is none
		{"a (b [) a", []api.Sexp{a}, 2, api.ErrLex}, {"(a 007)", nil, 0, api.ErrLex}, {" ((a) (b |", nil, 1, api.ErrLex},
		{"a " + deep + " b", []api.Sexp{a}, 2, api.ErrDeep}, {deep + "(", nil, 0, api.ErrDeep}, {"a;\n" + deep, []api.Sexp{a}, 3, api.ErrDeep}, {"a " + deep[:122] + "[", []api.Sexp{a}, 2, api.ErrLex}, {"a " + deep[:122], []api.Sexp{a}, 2, api.ErrOpen},
		{nest(a, 60) + nest(b, 60), []api.Sexp{around(a, 60), around(b, 60)}, 242, api.OK},
	} {
		if l, end, e := sexpr.All(c.s); !alike(list(l...), list(c.want...)) || end != c.end || e != c.e {
			t.Errorf("%q: %v %d %v", c.s, l, end, e)
		}
		hold(t, c.s)
	}
	l, end, e := sexpr.All(rep("(a) ", 50000))
	if len(l) != 50000 || end != 200000 || e != api.OK {
		t.Error(len(l), end, e)
	}
}

// P3.3: MaxText bytes are a text, one more is none; what may not be goes first.
func TestTextLong(t *testing.T) {
	full := make([]api.Sexp, 4095) // ( and 4095 of a byte with what is behind each: 8191
	for i := range full {
		full[i] = sym("a")
	}
	wide := make([]api.Sexp, 90000)
	for i := range wide {
		wide[i] = list()
	}
	name := func(n int) []api.Sexp {
		l := append([]api.Sexp{}, full...)
		l[len(l)-1] = sym(rep("b", n))
		return l
	}
	for i, c := range []struct {
		x    api.Sexp
		want int // of bytes
	}{
		{list(full...), 8191}, {list(name(2)...), 8192}, {list(name(3)...), 8193}, {list(name(100)...), 8290},
		{list(append([]api.Sexp{key("k")}, full[1:]...)...), 8192}, {list(append([]api.Sexp{sym("")}, full[1:]...)...), 8192}, {list(append([]api.Sexp{number("10")}, full[1:]...)...), 8192}, {list(append([]api.Sexp{list()}, full[1:]...)...), 8192},
		{list(append([]api.Sexp{key("kk")}, full[1:]...)...), 8193}, {list(append([]api.Sexp{sym(" ")}, full[1:]...)...), 8193}, {list(append([]api.Sexp{list(sym("a"))}, full[1:]...)...), 8193},
		{list(append(name(1), sym("a"))...), 8193}, {list(wide...), 270001}, {list(list(full[:4094]...)), 8191}, {list(list(full...)), 8193}, {list(full[:4000]...), 8001},
		{around(list(full[:4000]...), 59), 8119}, {list(list(full[:1000]...), list(full[:3000]...)), 8005}, {list(list(wide...), list(wide...)), 540005},
	} {
		if len(plain(c.x)) != c.want {
			t.Errorf("%d: %d", i, len(plain(c.x)))
		}
		s, e := sexpr.Text(c.x)
		if c.want <= 8192 && (s != plain(c.x) || e != api.OK) || c.want > 8192 && (s != "" || e != api.ErrLong) {
			t.Errorf("%d: %d bytes, %v", i, len(s), e)
		}
		bad := list(c.x, sym("|"))
		if s, e := sexpr.Text(bad); s != "" || e != api.ErrArg {
			t.Errorf("%d: %d bytes, %v", i, len(s), e)
		}
	}
	if s, e := sexpr.Text(list(list(wide...), around(list(), 59))); s != "" || e != api.ErrArg {
		t.Error(len(s), e)
	}
}

// P3.4: comments and white space between tokens make no difference.
func TestBetweenTokens(t *testing.T) {
	const s = "(let ((x 1) (|a b| :k)) (f x (- 7) () || let))"
	want, _, e := sexpr.Read(s, 0)
	if e != api.OK {
		t.Fatal(e)
	}
	tokens, _, _ := lex.All(s)
	blanks := []string{" ", "\n", "\t", "\r", ";\n", "; ) (\n", " ;;|\n ", rep("\n", 100), ";é\x00\n"}
	for i := range blanks {
		for step := range len(blanks) {
			u, at := "", 0
			for j, k := range tokens {
				u, at = u+s[at:k.At]+blanks[(i+step*j)%len(blanks)]+s[k.At:k.End], k.End
			}
			end := len(u)
			u += blanks[i]
			if x, to, e := sexpr.Read(u, 0); !sexpr.Same(x, want) || to != end || e != api.OK {
				t.Errorf("%q: %v %d %v", u, x, to, e)
			}
			if l, to, e := sexpr.All(u); len(l) != 1 || to != len(u) || e != api.OK {
				t.Errorf("%q: %v %d %v", u, l, to, e)
			}
		}
	}
}

// endless are expressions that are within themselves.
func endless() []api.Sexp {
	one := []api.Sexp{list()}
	one[0].L = one
	two := []api.Sexp{sym("a"), list(), list()}
	two[1].L, two[2].L = two, two
	there := []api.Sexp{number("7"), list()}
	back := []api.Sexp{list(sym("a")), list()}
	there[1].L, back[1].L = back, there
	part := []api.Sexp{sym("a"), list(), sym("b")}
	part[1].L = part[:2]
	late := []api.Sexp{around(sym("a"), 40), sym("b"), list()}
	late[2].L = late
	long := make([]api.Sexp, 100) // one within the other, the last ones round and round
	for i := range long {
		long[i] = list()
		long[i].L = long[(i+1)%100 : (i+1)%100+1]
	}
	long[99].L = long[63:64]
	return []api.Sexp{list(one...), list(two...), list(there...), list(back...), list(part...), list(late...), list(long...), long[0], list(sym("a"), list(one...)), around(list(two...), 100)}
}

// P3.1: what shares memory with a row around it, and ends.
func TestShared(t *testing.T) {
	l := []api.Sexp{sym("a"), list(), list()}
	l[1].L, l[2].L = l[:1], l[:2]
	x, want := list(l...), list(sym("a"), list(sym("a")), list(sym("a"), list(sym("a"))))
	if sexpr.Depth(list(l...)) != 3 || !sexpr.May(x) || !sexpr.Same(x, want) || !sexpr.Same(want, x) {
		t.Error(sexpr.Depth(x))
	}
	if s, e := sexpr.Text(x); s != "(a (a) (a (a)))" || e != api.OK {
		t.Error(s, e)
	}
}

// R1: what is within itself is answered, too.
func TestEndless(t *testing.T) {
	for i, x := range endless() {
		if sexpr.May(x) || sexpr.Depth(x) <= api.MaxDepth {
			t.Errorf("%d: %v %d", i, sexpr.May(x), sexpr.Depth(x))
		}
		if s, e := sexpr.Text(x); s != "" || e != api.ErrArg {
			t.Errorf("%d: %q %v", i, s, e)
		}
		for _, y := range []api.Sexp{{}, list(), sym("a"), list(sym("a")), list(list(sym("a")))} {
			if sexpr.Same(x, y) || sexpr.Same(y, x) {
				t.Errorf("%d: %v is the same", i, y)
			}
		}
		for _, y := range append(endless(), x) {
			sexpr.Same(x, y)
			sexpr.Head(y)
		}
		// what is in no list has no depth, but is a field
		y := api.Sexp{Kind: api.SxSym, L: x.L}
		if sexpr.Depth(y) != 0 || sexpr.Depth(list(y)) != 1 || sexpr.May(y) || sexpr.Same(y, sym("")) {
			t.Errorf("%d: %d", i, sexpr.Depth(y))
		}
		sexpr.Same(y, y)
	}
}

// R1, P3.1: what is deeper than calls within calls may go.
func TestVeryDeep(t *testing.T) {
	const n = 3 << 20
	rows := make([]api.Sexp, n)
	for i := range rows {
		rows[i].Kind = api.SxList
		if i > 0 {
			rows[i].L = rows[i-1 : i]
		}
	}
	x := rows[n-1]
	if sexpr.Depth(x) != n || sexpr.May(x) || !sexpr.Same(x, x) || sexpr.Same(x, rows[n-2]) || sexpr.Same(rows[n-2], x) {
		t.Error(sexpr.Depth(x))
	}
	if s, e := sexpr.Text(x); s != "" || e != api.ErrArg {
		t.Error(s, e)
	}
}

// R4: what is handed in is as it was; an answer shares no memory.
func TestMemory(t *testing.T) {
	const s = "(a (b) (c d) ()) (a (b))"
	l, _, _ := sexpr.All(s)
	m, _, _ := sexpr.All(s)
	rows := func(l []api.Sexp) (all [][]api.Sexp) {
		for at := [][]api.Sexp{l}; len(at) > 0; at = at[1:] {
			all = append(all, at[0])
			for _, x := range at[0] {
				at = append(at, x.L)
			}
		}
		return all
	}
	// what is put behind a row, and into it, is seen in no other
	for i, r := range rows(l) {
		copyOf := append([]api.Sexp{}, r...)
		_ = append(r, sym("spoilt"))
		for j := range r {
			r[j] = sym("spoilt")
		}
		for j, q := range rows(l) {
			if i != j && len(q) > 0 && q[0].Text == "spoilt" {
				t.Error(i, j)
			}
		}
		copy(r, copyOf)
	}
	if !alike(list(l...), list(m...)) {
		t.Error(l)
	}
	spare := []api.Sexp{sym("a"), list(sym("b")), sym("c")}
	x := list(spare[:2]...)
	sexpr.Text(x)
	sexpr.May(x)
	sexpr.Depth(x)
	sexpr.Head(x)
	sexpr.Same(x, list(spare...))
	sexpr.Same(x, x)
	if !alike(list(spare...), list(sym("a"), list(sym("b")), sym("c"))) {
		t.Error(spare)
	}
}

// R3: the same again is answered the same.
func TestAgain(t *testing.T) {
	for range 3 {
		x, end, e := sexpr.Read("((a) "+nest(sym("b"), 59)+")", 0)
		if !alike(x, list(list(sym("a")), around(sym("b"), 59))) || end != 125 || e != api.OK {
			t.Error(x, end, e)
		}
		if _, end, e := sexpr.Read(nest(sym("b"), 61), 0); end != 123 || e != api.ErrDeep {
			t.Error(end, e)
		}
	}
}
