package command_test

import (
	"fmt"
	"math"
	"slices"
	"strings"
	"testing"

	"gantry/api"
	"gantry/command"
	"gantry/lex"
	"gantry/sexpr"
)

func sym(s string) api.Sexp { return api.Sexp{Kind: api.SxSym, Text: s} }

func digits(s string) api.Sexp { return api.Sexp{Kind: api.SxNum, Text: s} }

func key(s string) api.Sexp { return api.Sexp{Kind: api.SxKey, Text: s} }

func list(l ...api.Sexp) api.Sexp { return api.Sexp{Kind: api.SxList, L: l} }

// around is x within n lists.
func around(x api.Sexp, n int) api.Sexp {
	for range n {
		x = list(x)
	}
	return x
}

// with is the list x with more behind.
func with(x api.Sexp, more ...api.Sexp) api.Sexp {
	return list(slices.Concat(x.L, more)...)
}

// at is the list x with y at place i.
func at(x api.Sexp, i int, y ...api.Sexp) api.Sexp {
	return list(slices.Concat(x.L[:i], y, x.L[i+1:])...)
}

// many are n of x.
func many(x api.Sexp, n int) (l []api.Sexp) {
	for range n {
		l = append(l, x)
	}
	return l
}

// reads are the expressions of s.
func reads(s string) []api.Sexp {
	l, _, e := sexpr.All(s)
	if e != api.OK {
		panic(s)
	}
	return l
}

// read is the one expression of s.
func read(s string) api.Sexp {
	l := reads(s)
	if len(l) != 1 {
		panic(s)
	}
	return l[0]
}

// endless is a list within itself.
func endless() api.Sexp {
	x := list(sym("assert"), sym("t"))
	x.L[1] = x
	return x
}

// show tells all fields; what is alike (nil and empty, too) is told alike.
func show(x api.Sexp) string {
	var b strings.Builder
	showIn(&b, x)
	return b.String()
}

func showIn(b *strings.Builder, x api.Sexp) {
	fmt.Fprintf(b, "%d %q [", x.Kind, x.Text)
	for _, y := range x.L {
		showIn(b, y)
	}
	b.WriteString("]")
}

func showAll(c api.Command) string {
	return fmt.Sprintf("%d %q %d %d %q %q %q ", c.Kind, c.Name, c.N, c.L, c.Args, c.Params, c.Res) + show(list(c.Terms...))
}

func same(a, b api.Command) bool { return showAll(a) == showAll(b) }

// nothing tells whether c is what stands beside an error.
func nothing(c api.Command) bool {
	return same(c, api.Command{}) && c.L == nil && c.Args == nil && c.Params == nil && c.Terms == nil
}

// holds asks for all that follows, if x is parsed as want, and its text is s.
func holds(t *testing.T, x api.Sexp, s string, want api.Command) {
	t.Helper()
	c, e := command.Parse(x)
	if !same(c, want) || e != api.OK {
		t.Errorf("Parse %.99q: %s %v", s, showAll(c), e)
	}
	if !command.May(want) || !command.May(c) || !command.Same(c, want) || !command.Same(want, c) {
		t.Errorf("%.99q may not be, or is not the same", s)
	}
	for _, c := range []api.Command{want, c} {
		if y, e := command.Sexp(c); show(x) != show(y) || e != api.OK {
			t.Errorf("Sexp %.99q: %s %v", s, show(y), e)
		}
		u, e := command.Text(c)
		if len(s) > api.MaxText {
			if u != "" || e != api.ErrLong {
				t.Errorf("Text %.99q: %d %v", s, len(u), e)
			}
			continue
		}
		if u != s || e != api.OK {
			t.Errorf("Text %.99q: %q %v", s, u, e)
		}
		if y, end, e := sexpr.Read(u, 0); show(x) != show(y) || end != len(u) || e != api.OK {
			t.Errorf("Read %.99q: %s %d %v", s, show(y), end, e)
		}
	}
}

// none asks that x is none of the forms.
func none(t *testing.T, x api.Sexp) {
	t.Helper()
	if c, e := command.Parse(x); !nothing(c) || e != api.ErrForm {
		t.Errorf("%.99v: %s %v", x, showAll(c), e)
	}
}

// mayNot asks that c is no list's.
func mayNot(t *testing.T, c api.Command) {
	t.Helper()
	x, e := command.Sexp(c)
	s, f := command.Text(c)
	if command.May(c) || show(x) != show(api.Sexp{}) || x.L != nil || e != api.ErrArg || s != "" || f != api.ErrArg {
		t.Errorf("%.99v: %v %v %v %q %v", c, command.May(c), x, e, s, f)
	}
}

// forms are commands of each kind, by their texts.
func forms() map[string]api.Command {
	tt, n := sym("t"), digits("7")
	not := list(sym("not"), tt)
	return map[string]api.Command{
		"(set-logic QF_UFIDL)":                    {Kind: api.CmLogic, Name: "QF_UFIDL"},
		"(set-logic other)":                       {Kind: api.CmLogic, Name: "other"},
		"(set-option :budget 7)":                  {Kind: api.CmOption, Name: "budget", N: 7},
		"(set-option :budget 0)":                  {Kind: api.CmOption, Name: "budget"},
		"(set-option :seeds ())":                  {Kind: api.CmOption, Name: "seeds"},
		"(set-option :seeds (0))":                 {Kind: api.CmOption, Name: "seeds", L: []int{0}},
		"(set-option :seeds (9 0 9 10))":          {Kind: api.CmOption, Name: "seeds", L: []int{9, 0, 9, 10}},
		"(declare-sort S 0)":                      {Kind: api.CmSort, Name: "S"},
		"(declare-fun f () S)":                    {Kind: api.CmFun, Name: "f", Res: "S"},
		"(declare-fun f (A) S)":                   {Kind: api.CmFun, Name: "f", Args: []string{"A"}, Res: "S"},
		"(declare-fun f (B A B) A)":               {Kind: api.CmFun, Name: "f", Args: []string{"B", "A", "B"}, Res: "A"},
		"(define-fun m () S t)":                   {Kind: api.CmDefine, Name: "m", Res: "S", Terms: []api.Sexp{tt}},
		"(define-fun m ((x A)) S (not t))":        {Kind: api.CmDefine, Name: "m", Params: [][2]string{{"x", "A"}}, Res: "S", Terms: []api.Sexp{not}},
		"(define-fun m ((z B) (y A) (z A)) S ())": {Kind: api.CmDefine, Name: "m", Params: [][2]string{{"z", "B"}, {"y", "A"}, {"z", "A"}}, Res: "S", Terms: []api.Sexp{list()}},
		"(assert t)":                              {Kind: api.CmAssert, Terms: []api.Sexp{tt}},
		"(assert (not t))":                        {Kind: api.CmAssert, Terms: []api.Sexp{not}},
		"(assert 7)":                              {Kind: api.CmAssert, Terms: []api.Sexp{n}},
		"(assert :k)":                             {Kind: api.CmAssert, Terms: []api.Sexp{key("k")}},
		"(assert ())":                             {Kind: api.CmAssert, Terms: []api.Sexp{list()}},
		"(assert (assert t))":                     {Kind: api.CmAssert, Terms: []api.Sexp{list(sym("assert"), tt)}},
		"(push 1)":                                {Kind: api.CmPush, N: 1},
		"(pop 1)":                                 {Kind: api.CmPop, N: 1},
		"(check-sat)":                             {Kind: api.CmCheck},
		"(get-model)":                             {Kind: api.CmModel},
		"(get-value (t))":                         {Kind: api.CmValue, Terms: []api.Sexp{tt}},
		"(get-value ((not t) 7 :k () t t (())))":  {Kind: api.CmValue, Terms: []api.Sexp{not, n, key("k"), list(), tt, tt, list(list())}},
		"(get-proof)":                             {Kind: api.CmProof},
		"(exit)":                                  {Kind: api.CmExit},
		"(declare-fun |a b| (|| |(| |7|) |:k|)":   {Kind: api.CmFun, Name: "a b", Args: []string{"", "(", "7"}, Res: ":k"},
		"(set-logic ||)":                          {},
		"(declare-fun || () ||)":                  {Kind: api.CmFun},
		"(define-fun let ((as _)) par exists)":    {Kind: api.CmDefine, Name: "let", Params: [][2]string{{"as", "_"}}, Res: "par", Terms: []api.Sexp{sym("exists")}},
		"(declare-sort and 0)":                    {Kind: api.CmSort, Name: "and"},
		"(declare-sort Bool 0)":                   {Kind: api.CmSort, Name: "Bool"},
		"(declare-fun declare-fun (Bool) Int)":    {Kind: api.CmFun, Name: "declare-fun", Args: []string{"Bool"}, Res: "Int"},
		"(define-fun |;| ((|a\n| ||)) |\t| |a;|)": {Kind: api.CmDefine, Name: ";", Params: [][2]string{{"a\n", ""}}, Res: "\t", Terms: []api.Sexp{sym("a;")}},
	}
}

// P8.1, P8.2, P8.3: lists of each kind.
func TestForms(t *testing.T) {
	for s, c := range forms() {
		holds(t, read(s), s, c)
	}
	for _, s := range []string{"(|check-sat|)", " ( check-sat ; so\n ) ", "(|set-option| :budget 1)", "(|define-fun| |f| () |S| |t|)"} {
		if c, e := command.Parse(read(s)); e != api.OK || !command.May(c) {
			t.Errorf("%q: %v %v", s, c, e)
		}
	}
}

// P8.1: each form with one part fewer, one more, a part twice, two parts the
// other way about, and at each place what does not stand there.
func TestParts(t *testing.T) {
	others := append(reads("x 7 0 :k () (x) (7) (:k) (()) ((x)) ((x y))"), key("budget"), key("seeds"))
	for s := range forms() {
		x := read(s)
		for _, y := range others {
			none(t, with(x, y))
		}
		for i := range x.L {
			none(t, at(x, i))
			for _, y := range others {
				hold(t, at(x, i, y))
			}
			if i > 0 {
				none(t, at(x, i, x.L[i], x.L[i]))
				hold(t, at(at(x, i, x.L[i-1]), i-1, x.L[i]))
			}
		}
	}
	for _, s := range []string{
		"(set-logic)", "(set-logic 7)", "(set-logic :k)", "(set-logic (a))", "(set-logic ())", "(set-logic a b)",
		"(set-option)", "(set-option :budget)", "(set-option :seeds)", "(set-option budget 7)", "(set-option seeds ())", "(set-option |:budget| 7)", "(set-option (:budget) 7)", "(set-option 7 :budget)", "(set-option (:budget 7))",
		"(set-option :budget x)", "(set-option :budget |7|)", "(set-option :budget :7)", "(set-option :budget (7))", "(set-option :budget ())", "(set-option :budget -7)", "(set-option :budget (- 7))", "(set-option :budget 7 7)",
		"(set-option :seeds 7)", "(set-option :seeds x)", "(set-option :seeds :k)", "(set-option :seeds (x))", "(set-option :seeds (1 x))", "(set-option :seeds (x 1))", "(set-option :seeds (1 |2| 3))", "(set-option :seeds (1 :2))", "(set-option :seeds (1 (2)))", "(set-option :seeds ((1)))", "(set-option :seeds (()))", "(set-option :seeds (1 (- 2)))", "(set-option :seeds (1) 2)", "(set-option :seeds () ())",
		"(set-option :other 7)", "(set-option :other ())", "(set-option :Budget 7)", "(set-option :budgets 7)", "(set-option :seed (7))", "(set-option :bud 7)",
		"(declare-sort)", "(declare-sort S)", "(declare-sort S 0 0)", "(declare-sort 0 S)", "(declare-sort 0)", "(declare-sort S x)", "(declare-sort S |0|)", "(declare-sort S :0)", "(declare-sort S ())", "(declare-sort S (0))", "(declare-sort (S) 0)", "(declare-sort 7 0)", "(declare-sort :S 0)",
		"(declare-fun)", "(declare-fun f)", "(declare-fun f ())", "(declare-fun f S)", "(declare-fun () S)", "(declare-fun f () S S)", "(declare-fun f S S)", "(declare-fun f 7 S)", "(declare-fun f :k S)", "(declare-fun 7 () S)", "(declare-fun :f () S)", "(declare-fun (f) () S)", "(declare-fun f () 7)", "(declare-fun f () :S)", "(declare-fun f () (S))", "(declare-fun f () ())", "(declare-fun f (7) S)", "(declare-fun f (A 7) S)", "(declare-fun f (:A) S)", "(declare-fun f ((A)) S)", "(declare-fun f (A ()) S)", "(declare-fun f A B S)",
		"(define-fun)", "(define-fun m)", "(define-fun m ())", "(define-fun m () S)", "(define-fun m () t)", "(define-fun () S t)", "(define-fun m S t)", "(define-fun m () S t t)", "(define-fun m x S t)", "(define-fun m 7 S t)", "(define-fun m (x) S t)", "(define-fun m (x A) S t)", "(define-fun m ((x)) S t)", "(define-fun m (()) S t)", "(define-fun m ((x A A)) S t)", "(define-fun m ((x 7)) S t)", "(define-fun m ((7 A)) S t)", "(define-fun m ((x :A)) S t)", "(define-fun m ((:x A)) S t)", "(define-fun m ((x (A))) S t)", "(define-fun m (((x) A)) S t)", "(define-fun m ((x A) y) S t)", "(define-fun m ((x A) (y)) S t)", "(define-fun m (y (x A)) S t)", "(define-fun m (((x A))) S t)", "(define-fun 7 () S t)", "(define-fun (m) () S t)", "(define-fun m () 7 t)", "(define-fun m () (S) t)",
		"(assert)", "(assert t t)", "(assert () ())",
		"(push)", "(push x)", "(push |1|)", "(push :1)", "(push ())", "(push (1))", "(push 1 1)", "(push -1)", "(push (- 1))",
		"(pop)", "(pop x)", "(pop |1|)", "(pop :1)", "(pop ())", "(pop (1))", "(pop 1 1)", "(pop -1)", "(pop (- 1))",
		"(check-sat t)", "(check-sat 0)", "(check-sat ())", "(get-model t)", "(get-model ())", "(get-proof 0)", "(get-proof ())", "(exit 0)", "(exit ())", "(exit exit)",
		"(get-value)", "(get-value ())", "(get-value t)", "(get-value 7)", "(get-value :k)", "(get-value t t)", "(get-value (t) t)", "(get-value (t) (t))", "(get-value () (t))",
	} {
		none(t, read(s))
	}
}

// P8.1: what is no list, lists without a name first, and heads that are none.
func TestHeads(t *testing.T) {
	for _, s := range []string{
		"x", "7", ":k", "()", "(())", "((check-sat))", "(())", "(7)", "(:k)", "(:check-sat)", "((push) 1)", "(7 push 1)", "(:set-logic a)", "((set-logic) a)", "(1 push)",
		"(x)", "(||)", "(|| 1)", "(Push 1)", "(push- 1)", "(pus 1)", "(reset)", "(check-sat-assuming)", "(check)", "(check_sat)", "(CHECK-SAT)", "(| check-sat|)", "(get-unsat-core)", "(declare-const x Int)", "(define-sort S () Int)", "(define-fun-rec m () S t)", "(set-info :k 7)", "(echo x)", "(budget 1)", "(let ((x 1)) x)", "(- 1)", "(set-option)", "(not t)", "(exit-)",
		"set-logic", "check-sat", "exit", "assert", ":push", "|(exit)|",
	} {
		none(t, read(s))
	}
	for s := range forms() {
		x := read(s)
		none(t, list(x))
		none(t, list(x.L[1:]...))
		none(t, with(list(list()), x.L...))
		for _, y := range []api.Sexp{key(x.L[0].Text), digits("7"), list(x.L[0]), sym(""), sym(x.L[0].Text + " ")} {
			none(t, at(x, 0, y))
		}
	}
	none(t, api.Sexp{})
}

// ints are n of k, and their texts.
func ints(k, n int) (l []int, s string) {
	for range n {
		l = append(l, k)
		s += fmt.Sprint(k, " ")
	}
	return l, strings.TrimSpace(s)
}

// P8.1, P8.2: numbers at each bound and one past it; numerals with many digits.
func TestNumbers(t *testing.T) {
	const over = api.MaxBudget + 1
	kinds := map[int8]string{api.CmPush: "push", api.CmPop: "pop"}
	for kind, s := range kinds {
		for n := range api.MaxPush + 1 {
			text := fmt.Sprintf("(%s %d)", s, n)
			holds(t, read(text), text, api.Command{Kind: kind, N: n})
		}
		for _, n := range []int{-1, math.MinInt, api.MaxPush + 1, api.MaxBudget, api.Most, math.MaxInt} {
			mayNot(t, api.Command{Kind: kind, N: n})
		}
	}
	for _, n := range []int{0, 1, 9, 10, 4096, api.MaxBudget - 1, api.MaxBudget} {
		text := fmt.Sprintf("(set-option :budget %d)", n)
		holds(t, read(text), text, api.Command{Kind: api.CmOption, Name: "budget", N: n})
		text = fmt.Sprintf("(set-option :seeds (1 %d))", n)
		holds(t, read(text), text, api.Command{Kind: api.CmOption, Name: "seeds", L: []int{1, n}})
	}
	for _, n := range []int{-1, -over, -api.Most, math.MinInt, over, api.Most, api.Most + 1, math.MaxInt} {
		mayNot(t, api.Command{Kind: api.CmOption, Name: "budget", N: n})
		for _, l := range [][]int{{n}, {0, n}, {n, 0}, {1, n, 1}} {
			mayNot(t, api.Command{Kind: api.CmOption, Name: "seeds", L: l})
		}
	}
	past := []string{fmt.Sprint(over), "4611686018427387904", "4611686018427387905", "9223372036854775807", "18446744073709551616", "18446744073709551617", strings.Repeat("9", 100), "1" + strings.Repeat("0", 99)}
	for _, s := range append(past, "9") {
		none(t, list(sym("push"), digits(s)))
		none(t, list(sym("pop"), digits(s)))
		none(t, list(sym("declare-sort"), sym("S"), digits(s)))
	}
	for _, s := range past {
		none(t, list(sym("set-option"), key("budget"), digits(s)))
		none(t, list(sym("set-option"), key("seeds"), list(digits("1"), digits(s))))
		none(t, list(sym("set-option"), key("seeds"), list(digits(s), digits("1"))))
		text := "(assert " + s + ")" // a term's numerals are not looked at
		holds(t, read(text), text, api.Command{Kind: api.CmAssert, Terms: []api.Sexp{digits(s)}})
	}
	none(t, list(sym("declare-sort"), sym("S"), digits("1")))
	for _, s := range []string{"", "00", "01", "007", "-1", "+1", "1a", " 1", "1 ", "٣", strings.Repeat("9", 101), strings.Repeat("0", 100)} {
		for _, x := range reads("(push) (pop) (set-option :budget) (declare-sort S) (assert)") {
			none(t, with(x, digits(s)))
		}
		none(t, list(sym("set-option"), key("seeds"), list(digits(s))))
	}
}

// P8.1, P8.2: how many there may be, and one more.
func TestRows(t *testing.T) {
	for n := range 70 {
		l, s := ints(n, n)
		c, text := api.Command{Kind: api.CmOption, Name: "seeds", L: l}, "(set-option :seeds ("+s+"))"
		if n <= 64 {
			holds(t, read(text), text, c)
		} else {
			none(t, read(text))
			mayNot(t, c)
		}
		c, text = api.Command{Kind: api.CmValue, Terms: many(digits("7"), n)}, "(get-value ("+strings.TrimSpace(strings.Repeat("7 ", n))+"))"
		if n >= 1 && n <= 16 {
			holds(t, read(text), text, c)
		} else {
			none(t, read(text))
			mayNot(t, c)
		}
	}
	for n := range 6 {
		names, pairs := []string{"a", "b", "c", "d", "e"}[:n], [][2]string{{"a", "A"}, {"b", "B"}, {"c", "C"}, {"d", "D"}, {"e", "E"}}[:n]
		fun, text := api.Command{Kind: api.CmFun, Name: "f", Args: names, Res: "S"}, "(declare-fun f ("+strings.Join(names, " ")+") S)"
		var ps []string
		for _, p := range pairs {
			ps = append(ps, "("+p[0]+" "+p[1]+")")
		}
		define, whole := api.Command{Kind: api.CmDefine, Name: "m", Params: pairs, Res: "S", Terms: many(sym("t"), 1)}, "(define-fun m ("+strings.Join(ps, " ")+") S t)"
		if n <= api.MaxArgs {
			holds(t, read(text), text, fun)
			holds(t, read(whole), whole, define)
		} else {
			none(t, read(text))
			none(t, read(whole))
			mayNot(t, fun)
			mayNot(t, define)
		}
		define.Params, define.Terms = nil, many(sym("t"), n)
		if command.May(define) != (n == 1) || command.May(api.Command{Kind: api.CmAssert, Terms: define.Terms}) != (n == 1) {
			t.Error(n)
		}
	}
	none(t, with(list(sym("get-value")), many(sym("t"), 1<<16)...))
	none(t, list(sym("get-value"), list(many(sym("t"), 1<<16)...)))
	none(t, list(sym("set-option"), key("seeds"), list(many(digits("7"), 1<<16)...)))
	mayNot(t, api.Command{Kind: api.CmFun, Args: make([]string, 1<<16)})
	mayNot(t, api.Command{Kind: api.CmDefine, Params: make([][2]string, 1<<16), Terms: many(sym("t"), 1)})
	mayNot(t, api.Command{Kind: api.CmOption, Name: "seeds", L: make([]int, 1<<16)})
	mayNot(t, api.Command{Kind: api.CmValue, Terms: make([]api.Sexp, 1<<16)})
}

// named are commands that have that name at one place each, with their texts.
func named(s string) (l []api.Command, texts []string) {
	tt, q := many(sym("t"), 1), lex.Quote(s)
	l = []api.Command{
		{Kind: api.CmLogic, Name: s}, {Kind: api.CmSort, Name: s}, {Kind: api.CmFun, Name: s, Res: "S"},
		{Kind: api.CmFun, Name: "f", Res: s}, {Kind: api.CmFun, Name: "f", Args: []string{"A", s}, Res: "S"}, {Kind: api.CmDefine, Name: s, Res: "S", Terms: tt},
		{Kind: api.CmDefine, Name: "m", Res: s, Terms: tt}, {Kind: api.CmDefine, Name: "m", Params: [][2]string{{s, "A"}}, Res: "S", Terms: tt}, {Kind: api.CmDefine, Name: "m", Params: [][2]string{{"x", s}}, Res: "S", Terms: tt},
		{Kind: api.CmAssert, Terms: many(sym(s), 1)}, {Kind: api.CmValue, Terms: append(many(sym("t"), 1), list(sym("not"), sym(s)))},
	}
	texts = []string{
		"(set-logic " + q + ")", "(declare-sort " + q + " 0)", "(declare-fun " + q + " () S)",
		"(declare-fun f () " + q + ")", "(declare-fun f (A " + q + ") S)", "(define-fun " + q + " () S t)",
		"(define-fun m () " + q + " t)", "(define-fun m ((" + q + " A)) S t)", "(define-fun m ((x " + q + ")) S t)",
		"(assert " + q + ")", "(get-value (t (not " + q + ")))",
	}
	return l, texts
}

// P8.1, P8.2, P8.3: names at each place: such as need bars, are reserved, are
// the core's, are as long as may be; and such as may not be.
func TestNames(t *testing.T) {
	for _, s := range append(strings.Fields("_ ! as let exists forall match par Bool Int and => - set-logic budget 0 007 1a :k ( () ;"), "", " ", "a b", "\t\r\n", strings.Repeat("a", 100), strings.Repeat(" ", 100), "\x20~", "QF_UFIDL") {
		l, texts := named(s)
		for i, c := range l {
			holds(t, read(texts[i]), texts[i], c)
		}
	}
	for _, s := range []string{"|", "a|b", `\`, "a\\", "\x00", "\x1f", "\x7f", "é", "\xff", strings.Repeat("a", 101), strings.Repeat("a", 1<<16)} {
		l, _ := named(s)
		for _, c := range l {
			mayNot(t, c)
		}
		none(t, list(sym("set-logic"), sym(s)))
		none(t, list(sym("assert"), sym(s)))
		none(t, list(sym("declare-fun"), sym("f"), list(sym(s)), sym("S")))
		none(t, list(sym(s)))
		mayNot(t, api.Command{Kind: api.CmOption, Name: s})
	}
	for _, s := range []string{"", "x", "Budget", "budgets", ":budget", "budget ", "seed", "SEEDS", "|seeds|"} {
		for _, c := range []api.Command{{N: 7}, {L: []int{7}}, {}} {
			c.Kind, c.Name = api.CmOption, s
			mayNot(t, c)
		}
	}
}

// wrong are expressions that may not be.
func wrong() []api.Sexp {
	tt := many(sym("t"), 1)
	return []api.Sexp{
		endless(), {Kind: -1}, {Kind: 4}, {Kind: math.MaxInt8, Text: "t"}, sym("|"), digits(""), digits("01"), key(""), key("a b"),
		{Kind: api.SxSym, Text: "t", L: tt}, {Kind: api.SxNum, Text: "7", L: tt}, {Kind: api.SxKey, Text: "k", L: tt},
		{Kind: api.SxList, Text: "t"}, {Kind: api.SxList, Text: "t", L: tt}, list(sym("not"), sym("|")), list(list(digits("-1"))), around(sym("t"), 100000),
	}
}

// P8.1, P8.2: expressions that may not be, as a part, as what a list is, and as
// a command's term.
func TestWrong(t *testing.T) {
	for _, y := range wrong() {
		none(t, y)
		for s := range forms() {
			x := read(s)
			for i := range x.L {
				none(t, at(x, i, y))
			}
			none(t, with(x, y))
		}
		for _, x := range reads("(get-value) (set-option :seeds) (declare-fun f) (define-fun m) (assert)") {
			none(t, with(x, list(y)))
			none(t, with(x, list(sym("t"), y), sym("S")))
			none(t, with(x, list(list(sym("x"), y)), sym("S"), sym("t")))
		}
		mayNot(t, api.Command{Kind: api.CmAssert, Terms: []api.Sexp{y}})
		mayNot(t, api.Command{Kind: api.CmAssert, Terms: []api.Sexp{list(sym("not"), y)}})
		mayNot(t, api.Command{Kind: api.CmDefine, Terms: []api.Sexp{y}})
		mayNot(t, api.Command{Kind: api.CmValue, Terms: []api.Sexp{y}})
		mayNot(t, api.Command{Kind: api.CmValue, Terms: []api.Sexp{sym("t"), y}})
		mayNot(t, api.Command{Kind: api.CmValue, Terms: []api.Sexp{y, sym("t")}})
	}
	for s := range forms() {
		x := read(s)
		x.Text = "x"
		none(t, x)
		for kind := range int8(9) {
			if x = read(s); kind-3 != api.SxList {
				x.Kind = kind - 3
				none(t, x)
			}
		}
	}
}

// P8.1, P8.2: a term as deep as may be, and one deeper, counted with what stands
// about it.
func TestDepth(t *testing.T) {
	for n := 50; n < 70; n++ {
		for _, x := range []api.Sexp{around(sym("t"), n), around(list(), n-1), around(list(sym("t"), list()), n-2)} {
			s, _ := sexpr.Text(x)
			for _, f := range []struct {
				kind  int8
				about int // lists about the term
				text  string
			}{
				{api.CmAssert, 1, "(assert " + s + ")"},
				{api.CmDefine, 1, "(define-fun || () || " + s + ")"},
				{api.CmValue, 2, "(get-value (" + s + "))"},
			} {
				c := api.Command{Kind: f.kind, Terms: []api.Sexp{x}}
				if n+f.about <= api.MaxDepth {
					holds(t, read(f.text), f.text, c)
				} else {
					mayNot(t, c)
				}
			}
			for _, y := range []api.Sexp{list(sym("assert"), x), list(sym("define-fun"), sym("m"), list(), sym("S"), x), list(sym("get-value"), list(x))} {
				if _, e := command.Parse(y); (e == api.OK) != (sexpr.Depth(y) <= api.MaxDepth) {
					t.Error(n, e)
				}
			}
		}
	}
}

// P8.1: commands of a kind that is none, and with a field that theirs does not
// name, filled by itself.
func TestMayNot(t *testing.T) {
	for kind := range 256 {
		for s, c := range forms() {
			c.Kind = int8(kind)
			if want := may(c); command.May(c) != want || kind > int(api.CmExit) && want {
				t.Errorf("%s of kind %d: %v", s, int8(kind), !want)
			}
		}
		if c := (api.Command{Kind: int8(kind)}); kind > int(api.CmExit) {
			mayNot(t, c)
		}
	}
	for s, c := range forms() {
		fields := map[int]func(c *api.Command){
			0: func(c *api.Command) { c.Name += "x" },
			1: func(c *api.Command) { c.N++ },
			2: func(c *api.Command) { c.L = append(slices.Clone(c.L), 1) },
			3: func(c *api.Command) { c.Args = append(slices.Clone(c.Args), "A") },
			4: func(c *api.Command) { c.Params = append(slices.Clone(c.Params), [2]string{"a", "A"}) },
			5: func(c *api.Command) { c.Res += "x" },
			6: func(c *api.Command) { c.Terms = append(slices.Clone(c.Terms), sym("t")) },
		}
		has := map[int8][]int{
			api.CmLogic: {0}, api.CmSort: {0}, api.CmFun: {0, 3, 5}, api.CmDefine: {0, 4, 5}, api.CmPush: {1}, api.CmPop: {1}, api.CmValue: {6},
		}[c.Kind]
		if c.Kind == api.CmOption {
			has = map[string][]int{"budget": {1}, "seeds": {2}}[c.Name]
		}
		for i, fill := range fields {
			o := c
			fill(&o)
			full := i == 3 && len(c.Args) == api.MaxArgs || i == 4 && len(c.Params) == api.MaxArgs
			if want := slices.Contains(has, i) && !full; command.May(o) != want || may(o) != want {
				t.Errorf("%s, field %d: %v", s, i, command.May(o))
			}
			if !may(o) {
				mayNot(t, o)
			}
		}
		o := c
		o.L, o.Args, o.Params, o.Terms = append([]int{}, c.L...), append([]string{}, c.Args...), append([][2]string{}, c.Params...), append([]api.Sexp{}, c.Terms...)
		if !command.May(o) {
			t.Errorf("%s: empty rows are not nil ones", s)
		}
	}
}

// P8.1: all fields; nil and empty mean the same.
func TestSame(t *testing.T) {
	full := func() api.Command {
		return api.Command{Kind: 1, Name: "a", N: 1, L: []int{1, 2}, Args: []string{"a", "b"}, Params: [][2]string{{"a", "b"}, {"c", "d"}}, Res: "r", Terms: reads("(a (b 7)) c")}
	}
	all := []api.Command{{}, full()}
	for _, change := range []func(*api.Command){
		func(c *api.Command) { c.Kind = 2 }, func(c *api.Command) { c.Kind = -1 }, func(c *api.Command) { c.Kind = 0 },
		func(c *api.Command) { c.Name = "b" }, func(c *api.Command) { c.Name = "" }, func(c *api.Command) { c.N = 2 }, func(c *api.Command) { c.N = -1 }, func(c *api.Command) { c.N = math.MinInt },
		func(c *api.Command) { c.L = nil }, func(c *api.Command) { c.L = c.L[:1] }, func(c *api.Command) { c.L[0] = 3 }, func(c *api.Command) { c.L[1] = 3 }, func(c *api.Command) { c.L = []int{2, 1} }, func(c *api.Command) { c.L = append(c.L, 0) },
		func(c *api.Command) { c.Args = nil }, func(c *api.Command) { c.Args = c.Args[1:] }, func(c *api.Command) { c.Args[0] = "c" }, func(c *api.Command) { c.Args[1] = "c" }, func(c *api.Command) { c.Args = append(c.Args, "") },
		func(c *api.Command) { c.Params = nil }, func(c *api.Command) { c.Params = c.Params[:1] }, func(c *api.Command) { c.Params[0][0] = "z" }, func(c *api.Command) { c.Params[1][1] = "z" }, func(c *api.Command) { c.Params = append(c.Params, [2]string{}) },
		func(c *api.Command) { c.Res = "" }, func(c *api.Command) { c.Res = "s" },
		func(c *api.Command) { c.Terms = nil }, func(c *api.Command) { c.Terms = c.Terms[:1] }, func(c *api.Command) { c.Terms[1].Text = "d" }, func(c *api.Command) { c.Terms[1].Kind = api.SxKey }, func(c *api.Command) { c.Terms[0].L[1].L[1].Text = "8" }, func(c *api.Command) { c.Terms[0].Text = "x" }, func(c *api.Command) { c.Terms[1].L = c.Terms[:1] }, func(c *api.Command) { c.Terms = append(c.Terms, api.Sexp{}) }, func(c *api.Command) { c.Terms[0], c.Terms[1] = c.Terms[1], c.Terms[0] },
	} {
		c := full()
		change(&c)
		all = append(all, c)
		var d api.Command
		switch o := full(); { // the one field by itself
		case c.Name != o.Name:
			d.Name = "a"
		case c.N != o.N:
			d.N = c.N
		case c.Res != o.Res:
			d.Res = "r"
		default:
			d.Kind = c.Kind
		}
		all = append(all, d)
	}
	for i, a := range all {
		for j, b := range all {
			if command.Same(a, b) != same(a, b) {
				t.Errorf("%d %d: %v", i, j, command.Same(a, b))
			}
		}
	}
	empty := api.Command{L: []int{}, Args: []string{}, Params: [][2]string{}, Terms: []api.Sexp{}}
	if !command.Same(api.Command{}, empty) || !command.Same(empty, api.Command{}) || !command.May(empty) {
		t.Error("nil and empty")
	}
	loop := api.Command{Kind: api.CmAssert, Terms: []api.Sexp{endless()}}
	if command.Same(loop, api.Command{Kind: api.CmAssert, Terms: many(sym("t"), 1)}) || command.Same(api.Command{}, loop) {
		t.Error("what is within itself is the same as another")
	}
	command.Same(loop, loop)
}

// P8.2: MaxText bytes, and one more; what may not be goes ahead.
func TestTextLong(t *testing.T) {
	for more := range 3 {
		n := api.MaxText - 1 + more
		rest := n - len("(assert ())")
		names := many(sym("a"), rest/2-49) // with the blanks ahead, all but the first one's: less one
		names = append(names, sym(strings.Repeat("b", rest-2*len(names))))
		c := api.Command{Kind: api.CmAssert, Terms: []api.Sexp{list(names...)}}
		x := list(sym("assert"), c.Terms[0])
		s := "(assert (" + strings.Repeat("a ", len(names)-1) + names[len(names)-1].Text + "))"
		if len(s) != n {
			t.Fatal(len(s), n)
		}
		holds(t, x, s, c)
		c.N = 1
		mayNot(t, c)
	}
	long := many(list(many(sym(strings.Repeat("a", 100)), 1000)...), 16)
	holds(t, list(sym("get-value"), list(long...)), strings.Repeat(" ", api.MaxText+1), api.Command{Kind: api.CmValue, Terms: long})
}

// roomy is x in new memory, with room behind each row that is not empty.
func roomy(x api.Sexp) api.Sexp {
	if len(x.L) > 0 {
		x.L = roomyRow(x.L)
	}
	for i := range x.L {
		x.L[i] = roomy(x.L[i])
	}
	return x
}

func roomyRow[T any](l []T) []T {
	return slices.Concat(l, l[:1])[:len(l)]
}

// roomyCommand is c likewise.
func roomyCommand(c api.Command) api.Command {
	c.Terms = roomy(list(c.Terms...)).L
	if len(c.L) > 0 {
		c.L = roomyRow(c.L)
	}
	if len(c.Args) > 0 {
		c.Args = roomyRow(c.Args)
	}
	if len(c.Params) > 0 {
		c.Params = roomyRow(c.Params)
	}
	return c
}

// cells are the places in memory of what x's rows hold, and may hold.
func cells(x api.Sexp) (l []any) {
	l = rowCells(x.L)
	for _, y := range x.L {
		l = append(l, cells(y)...)
	}
	return l
}

func rowCells[T any](l []T) (o []any) {
	for i := range l[:cap(l)] {
		o = append(o, &l[:cap(l)][i])
	}
	return o
}

// commandCells are those of c's rows.
func commandCells(c api.Command) []any {
	return slices.Concat(rowCells(c.L), rowCells(c.Args), rowCells(c.Params), cells(api.Sexp{L: c.Terms}))
}

// wide is x with the room behind its rows.
func wide(x api.Sexp) string {
	s := show(x)
	for _, y := range x.L[:cap(x.L)] {
		s += wide(y)
	}
	return s
}

func wideCommand(c api.Command) string {
	return showAll(c) + fmt.Sprint(c.L[:cap(c.L)], c.Args[:cap(c.Args)], c.Params[:cap(c.Params)]) + wide(api.Sexp{L: c.Terms})
}

// apart asks that no place is there twice.
func apart(t *testing.T, s string, l ...any) {
	t.Helper()
	seen := map[any]bool{}
	for _, p := range l {
		if seen[p] {
			t.Errorf("%s: memory is shared", s)
			return
		}
		seen[p] = true
	}
}

// R4: what is handed in is as it was, the room behind it, too; no two rows, of
// what is handed in or answered, share memory.
func TestMemory(t *testing.T) {
	for s, want := range forms() {
		x, c := roomy(read(s)), roomyCommand(want)
		wideX, wideC := wide(x), wideCommand(c)
		a, _ := command.Parse(x)
		b, _ := command.Parse(x)
		y, _ := command.Sexp(c)
		z, _ := command.Sexp(c)
		command.Text(c)
		command.May(c)
		command.Same(c, a)
		command.Parse(with(x, sym("t")))
		command.Sexp(api.Command{Kind: 99, L: c.L, Args: c.Args, Params: c.Params, Terms: c.Terms})
		if wide(x) != wideX || wideCommand(c) != wideC {
			t.Errorf("%s: what was handed in is changed", s)
		}
		apart(t, s, slices.Concat(cells(x), commandCells(c), commandCells(a), commandCells(b), cells(y), cells(z))...)
	}
	one := list(sym("f"), sym("t"))
	shared := []api.Sexp{one, list(one, one), one}
	a, e := command.Parse(list(sym("get-value"), list(shared...)))
	x, f := command.Sexp(api.Command{Kind: api.CmValue, Terms: shared})
	if e != api.OK || f != api.OK || !same(a, api.Command{Kind: api.CmValue, Terms: shared}) {
		t.Error(a, e, f)
	}
	apart(t, "get-value", slices.Concat(cells(one), commandCells(a), cells(x))...)
}

// R3: the same again is answered the same.
func TestAgain(t *testing.T) {
	for range 3 {
		for s, c := range forms() {
			none(t, read("(push 9)"))
			mayNot(t, api.Command{Kind: api.CmPush, N: 9})
			if o, e := command.Parse(read(s)); !same(o, c) || e != api.OK {
				t.Errorf("%s: %v %v", s, o, e)
			}
		}
	}
}
