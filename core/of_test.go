package core_test

import (
	"math"
	"slices"
	"testing"

	"gantry/api"
	"gantry/core"
	"gantry/term"
)

// Places of source().
const (
	sX   = 2 + iota // an Int
	sY              // an Int
	sP              // a Bool
	sQ              // a Bool
	sA              // of a sort of its own
	sB              // of the same
	sX1             // x + 1
	sX3             // x + 1 + 2
	sX0             // x + 1 + 2 - 3
	s7              // 7
	s9              // 7 + 2
	s0              // 7 - 7
	sNot            // (not p)
	sEnd
)

// source is a table that is not core.
func source(l ...api.Node) api.Table {
	return upon(table(
		app(0, api.Int),
		app(1, api.Int),
		app(2, api.Bool),
		app(3, api.Bool),
		app(4, own),
		app(5, own),
		plus(sX, 1),
		plus(sX1, 2),
		plus(sX3, -3),
		number(7),
		plus(s7, 2),
		plus(s7, -7),
		not(sP),
	), l...)
}

func ofOf(u api.Table, roots []int, room int) (answer, []int) {
	w, l, e := core.Of(u, roots, room)
	return answer{t: w.Nodes, e: e}, l
}

// isOf asks for a table of those nodes behind True and Zero, and for images; at
// each room that there may be, with ErrMany where it is too small.
func isOf(t *testing.T, u api.Table, roots, images []int, l ...api.Node) {
	t.Helper()
	sound(t, u)
	w := table(l...)
	sound(t, w)
	if !core.Is(w) {
		t.Fatal("not core", w)
	}
	for _, room := range []int{math.MinInt, 0, 1, 2, 3, len(w.Nodes) - 1, len(w.Nodes), len(w.Nodes) + 1, math.MaxInt} {
		o, got := ofOf(u, roots, room)
		want := answer{t: w.Nodes}
		if len(l) > 0 && room < len(w.Nodes) {
			want = answer{e: api.ErrMany}
		}
		if !o.same(want) || o.e == api.OK && !slices.Equal(got, images) || o.e != api.OK && got != nil {
			t.Error(roots, room, o, got, "not", want, images)
		}
	}
}

// noOf asks for an error.
func noOf(t *testing.T, u api.Table, roots []int, room int, want api.Errno) {
	t.Helper()
	if o, l := ofOf(u, roots, room); !o.same(answer{e: want}) || l != nil {
		t.Error(roots, room, o, l, "not", want)
	}
}

// isImage asks for the image of n, put behind source(), as isOf does.
func isImage(t *testing.T, n api.Node, image int, l ...api.Node) {
	t.Helper()
	isOf(t, source(n), []int{sEnd}, []int{image}, l...)
}

var (
	appX = app(0, api.Int)
	appY = app(1, api.Int)
	appP = app(2, api.Bool)
	appQ = app(3, api.Bool)
	appA = app(4, own)
	appB = app(5, own)
)

// P12.2: True, numbers and sums.
func TestOfNumbers(t *testing.T) {
	u := source()
	isOf(t, u, nil, nil)
	isOf(t, term.New(), []int{}, nil)
	isOf(t, term.New(), []int{0, 1, 1, 0}, []int{0, 1, 1, 0})
	isOf(t, u, []int{api.True}, []int{0})
	isOf(t, u, []int{api.Zero}, []int{1})
	isOf(t, u, []int{s7}, []int{2}, number(7))
	isOf(t, u, []int{sX}, []int{2}, appX)
	isOf(t, u, []int{sX1}, []int{3}, appX, plus(2, 1))
	isOf(t, u, []int{sX3}, []int{4}, appX, plus(2, 1), plus(2, 3))
	isOf(t, u, []int{sX0}, []int{2}, appX, plus(2, 1), plus(2, 3))
	isOf(t, u, []int{s9}, []int{3}, number(7), number(9))
	isOf(t, u, []int{s0}, []int{1}, number(7))
	isImage(t, plus(sX, 0), 2, appX)
	isImage(t, plus(api.Zero, 0), 1)
	isImage(t, plus(api.Zero, 4), 2, number(4))
	isImage(t, plus(api.Zero, -4), 2, number(-4))
	isImage(t, plus(s9, -2), 2, number(7), number(9))
	isImage(t, number(most), 2, number(most))
	isImage(t, plus(sX, -most), 3, appX, plus(2, -most))
	isImage(t, plus(sX0, 5), 5, appX, plus(2, 1), plus(2, 3), plus(2, 5))
}

// P12.2: negations go back.
func TestOfNot(t *testing.T) {
	isOf(t, source(), []int{sNot}, []int{3}, appP, not(2))
	isImage(t, not(sNot), 2, appP, not(2))
	isOf(t, source(not(sNot), not(sEnd)), []int{sEnd + 1}, []int{3}, appP, not(2))
	isImage(t, not(api.True), 2, not(api.True))
	isOf(t, source(not(api.True), not(sEnd)), []int{sEnd + 1}, []int{0}, not(api.True))
	isOf(t, source(of(api.OpLt, api.Bool, sX, sX), not(sEnd)), []int{sEnd + 1}, []int{0}, appX, not(api.True))
	isOf(t, source(of(api.OpLe, api.Bool, sX, sX), not(sEnd)), []int{sEnd + 1}, []int{3}, appX, not(api.True))
	isOf(t, source(of(api.OpXor, api.Bool, sP, sQ), not(sEnd)), []int{sEnd + 1}, []int{4}, appP, appQ, equal(2, 3), not(4))
}

// P12.2: connectives.
func TestOfConnectives(t *testing.T) {
	two := func(op int8) api.Node { return of(op, api.Bool, sP, sQ) }
	turned := func(op int8) api.Node { return of(op, api.Bool, sQ, sP) }
	or := func(k, l int) api.Node { return of(api.OpOr, api.Bool, k, l) }
	isImage(t, two(api.OpAnd), 4, appP, appQ, and(2, 3))
	isImage(t, two(api.OpOr), 4, appP, appQ, or(2, 3))
	isImage(t, two(api.OpEq), 4, appP, appQ, equal(2, 3))
	isImage(t, two(api.OpXor), 5, appP, appQ, equal(2, 3), not(4))
	isImage(t, two(api.OpImp), 5, appP, appQ, not(2), or(4, 3))
	isImage(t, turned(api.OpAnd), 4, appQ, appP, and(2, 3)) // the first one's first
	isImage(t, turned(api.OpXor), 5, appQ, appP, equal(2, 3), not(4))
	isImage(t, turned(api.OpImp), 5, appQ, appP, not(2), or(4, 3))
	same := func(op int8) api.Node { return of(op, api.Bool, sP, sP) }
	isImage(t, same(api.OpAnd), 3, appP, and(2, 2))
	isImage(t, same(api.OpOr), 3, appP, or(2, 2))
	isImage(t, same(api.OpEq), 3, appP, equal(2, 2))
	isImage(t, same(api.OpXor), 4, appP, equal(2, 2), not(3))
	isImage(t, same(api.OpImp), 4, appP, not(2), or(3, 2))
	isImage(t, of(api.OpImp, api.Bool, sNot, sQ), 5, appP, not(2), appQ, or(2, 4))
	isImage(t, of(api.OpImp, api.Bool, sQ, sNot), 6, appQ, appP, not(3), not(2), or(5, 4))
	isImage(t, of(api.OpXor, api.Bool, sNot, sP), 5, appP, not(2), equal(3, 2), not(4))
	isImage(t, of(api.OpImp, api.Bool, api.True, sP), 4, appP, not(api.True), or(3, 2))
	isImage(t, of(api.OpIte, api.Bool, sP, sQ, sNot), 5, appP, appQ, not(2), of(api.OpIte, api.Bool, 2, 3, 4))
	isImage(t, of(api.OpIte, api.Bool, sP, sQ, sQ), 3, appP, appQ)
	isImage(t, of(api.OpIte, api.Bool, sQ, sP, sQ), 4, appQ, appP, of(api.OpIte, api.Bool, 2, 3, 2))
}

// P12.2: comparisons, of two bases and of one.
func TestOfComparisons(t *testing.T) {
	le := func(k, l int) api.Node { return of(api.OpLe, api.Bool, k, l) }
	lt := func(k, l int) api.Node { return of(api.OpLt, api.Bool, k, l) }
	isImage(t, le(sX, sY), 4, appX, appY, less(2, 3, 0))
	isImage(t, lt(sX, sY), 4, appX, appY, less(2, 3, -1))
	isImage(t, lt(sY, sX), 4, appY, appX, less(2, 3, -1))
	isImage(t, less(sX, sY, 5), 4, appX, appY, less(2, 3, 5))
	isImage(t, le(sX1, sY), 5, appX, plus(2, 1), appY, less(2, 4, -1))
	isImage(t, lt(sY, sX1), 5, appY, appX, plus(3, 1), less(2, 3, 0))
	isImage(t, less(sX3, s9, -2), 7, appX, plus(2, 1), plus(2, 3), number(7), number(9), less(2, api.Zero, 4))
	isImage(t, less(s7, sX1, 1), 5, number(7), appX, plus(3, 1), less(api.Zero, 3, -5))
	isImage(t, less(sX0, sY, 1), 6, appX, plus(2, 1), plus(2, 3), appY, less(2, 5, 1))
	isImage(t, le(sX, sX), 0, appX)
	isImage(t, lt(sX, sX), 3, appX, not(api.True))
	isImage(t, le(sX, sX1), 0, appX, plus(2, 1))
	isImage(t, lt(sX, sX1), 0, appX, plus(2, 1))
	isImage(t, le(sX1, sX), 4, appX, plus(2, 1), not(api.True))
	isImage(t, less(sX1, sX, 1), 0, appX, plus(2, 1))
	isImage(t, less(sX1, sX, 0), 4, appX, plus(2, 1), not(api.True))
	isImage(t, less(s9, s7, 2), 0, number(7), number(9))
	isImage(t, less(s9, s7, 1), 4, number(7), number(9), not(api.True))
	isImage(t, less(s9, api.Zero, 9), 0, number(7), number(9))
	isImage(t, less(api.Zero, api.Zero, -1), 2, not(api.True))
}

// P12.2: equalities.
func TestOfEqualities(t *testing.T) {
	isImage(t, equal(sX, sY), 6, appX, appY, less(2, 3, 0), less(3, 2, 0), and(4, 5))
	isImage(t, equal(sY, sX), 6, appY, appX, less(2, 3, 0), less(3, 2, 0), and(4, 5))
	isImage(t, equal(sX1, sY), 7, appX, plus(2, 1), appY, less(2, 4, -1), less(4, 2, 1), and(5, 6))
	isImage(t, equal(sX, s7), 6, appX, number(7), less(2, api.Zero, 7), less(api.Zero, 2, -7), and(4, 5))
	isImage(t, equal(sX, sX), 3, appX, and(0, 0))
	isImage(t, equal(sX0, sX), 5, appX, plus(2, 1), plus(2, 3), and(0, 0))
	isImage(t, equal(sX, sX1), 5, appX, plus(2, 1), not(api.True), and(0, 4))
	isImage(t, equal(s9, s7), 5, number(7), number(9), not(api.True), and(4, 0))
	isImage(t, equal(sA, sA), 0, appA)
	isImage(t, equal(sA, sB), 4, appA, appB, equal(2, 3))
	isImage(t, equal(sB, sA), 4, appB, appA, equal(2, 3))
	// the lesser image first, which may be that of the second one
	isOf(t, source(equal(sA, sB)), []int{sB, sEnd}, []int{2, 4}, appB, appA, equal(2, 3))
	isOf(t, source(equal(sA, sB), equal(sB, sA)), []int{sEnd, sEnd + 1}, []int{4, 4}, appA, appB, equal(2, 3))
	isOf(t, source(equal(sX, sY), equal(sY, sX)), []int{sEnd, sEnd + 1}, []int{6, 7}, appX, appY, less(2, 3, 0), less(3, 2, 0), and(4, 5), and(5, 4))
}

// P12.2: choices, and what stands behind them.
func TestOfChoices(t *testing.T) {
	ite := func(sort, i, k, l int) api.Node { return of(api.OpIte, sort, i, k, l) }
	isImage(t, ite(api.Int, sP, sX, sY), 5, appP, appX, appY, ite(api.Int, 2, 3, 4), less(5, 3, 0), less(3, 5, 0), less(5, 4, 0), less(4, 5, 0))
	isImage(t, ite(api.Int, sP, sX1, s7), 6, appP, appX, plus(3, 1), number(7), ite(api.Int, 2, 4, 5), less(6, 3, 1), less(3, 6, -1), less(6, api.Zero, 7), less(api.Zero, 6, -7))
	isImage(t, ite(api.Int, sNot, sX, sX1), 6, appP, not(2), appX, plus(4, 1), ite(api.Int, 3, 4, 5), less(6, 4, 0), less(4, 6, 0), less(6, 4, 1), less(4, 6, -1))
	isImage(t, ite(api.Int, sP, sX, sX), 3, appP, appX)
	isImage(t, ite(api.Int, sP, sX0, sX), 3, appP, appX, plus(3, 1), plus(3, 3))
	isImage(t, ite(own, sP, sA, sB), 5, appP, appA, appB, ite(own, 2, 3, 4), equal(3, 5), equal(4, 5))
	isImage(t, ite(own, sP, sB, sA), 5, appP, appB, appA, ite(own, 2, 3, 4), equal(3, 5), equal(4, 5))
	isImage(t, ite(own, sP, sA, sA), 3, appP, appA)
	// one upon another: it is a base as any other
	isOf(t, source(ite(api.Int, sP, sX, sY), plus(sEnd, 2), of(api.OpLe, api.Bool, sEnd+1, sX)), []int{sEnd + 2}, []int{11},
		appP, appX, appY, ite(api.Int, 2, 3, 4), less(5, 3, 0), less(3, 5, 0), less(5, 4, 0), less(4, 5, 0), plus(5, 2), less(5, 3, -2))
	isOf(t, source(ite(own, sP, sA, sB), equal(sEnd, sA)), []int{sEnd + 1}, []int{6}, appP, appA, appB, ite(own, 2, 3, 4), equal(3, 5), equal(4, 5))
}

// P12.2: functions, whatever their sorts.
func TestOfFunctions(t *testing.T) {
	isImage(t, app(9, api.Int, sX3), 5, appX, plus(2, 1), plus(2, 3), app(9, api.Int, 4))
	isImage(t, app(9, own, sB, sA, sB), 4, appB, appA, app(9, own, 2, 3, 2))
	isImage(t, app(9, api.Bool, sX0, sNot), 7, appX, plus(2, 1), plus(2, 3), appP, not(5), app(9, api.Bool, 2, 6))
	isImage(t, app(9, other, api.True, api.Zero), 2, app(9, other, 0, 1))
	isOf(t, source(app(9, own, sX), app(9, own, sX0)), []int{sEnd, sEnd + 1}, []int{3, 3}, appX, app(9, own, 2), plus(2, 1), plus(2, 3))
	isOf(t, source(app(9, own, sX), app(9, other, sX), app(9, own, sA)), []int{sEnd + 1, sEnd, sEnd + 2}, []int{3, 4, 6},
		appX, app(9, other, 2), app(9, own, 2), appA, app(9, own, 5))
}

// P12.2: the chapter's examples.
func TestOfExamples(t *testing.T) {
	isImage(t, of(api.OpImp, api.Bool, sP, sQ), 5, appP, appQ, not(2), of(api.OpOr, api.Bool, 4, 3))
	isOf(t, source(equal(sX1, sY)), []int{sEnd}, []int{7}, appX, plus(2, 1), appY, less(2, 4, -1), less(4, 2, 1), and(5, 6))
}

// P12.2: roots by their order, each node once, and none that is not reached.
func TestOfRoots(t *testing.T) {
	u := source(and(sQ, sP), of(api.OpOr, api.Bool, sEnd, sNot), app(9, own, sX3))
	or := of(api.OpOr, api.Bool, 4, 5)
	isOf(t, u, []int{sEnd + 1}, []int{6}, appQ, appP, and(2, 3), not(3), or)
	isOf(t, u, []int{sP, sEnd + 1}, []int{2, 6}, appP, appQ, and(3, 2), not(2), or)
	isOf(t, u, []int{sNot, sEnd + 1, sNot}, []int{3, 6, 3}, appP, not(2), appQ, and(4, 2), of(api.OpOr, api.Bool, 5, 3))
	isOf(t, u, []int{sEnd, sEnd, sEnd}, []int{4, 4, 4}, appQ, appP, and(2, 3))
	isOf(t, u, []int{sB, sY, sA, sX, sB, api.Zero, sA, api.True}, []int{2, 3, 4, 5, 2, 1, 4, 0}, appB, appY, appA, appX)
	isOf(t, u, []int{s9, s7, s0}, []int{3, 2, 1}, number(7), number(9))
	isOf(t, u, []int{sX3, sX, sX0, sX1}, []int{4, 2, 2, 3}, appX, plus(2, 1), plus(2, 3))
}

// P12.2: a table that may not be, and roots that are none, ahead of all others.
func TestOfArg(t *testing.T) {
	ill, over := source(as(api.Int, not(sQ))), source(plus(sX3, most), of(api.OpLe, api.Bool, sX, sEnd))
	for _, room := range []int{math.MinInt, 0, 2, 99} {
		for i, u := range strange() {
			for _, roots := range [][]int{nil, {0}, {p}, {end}, {-1}} {
				if o, l := ofOf(u, roots, room); !o.same(answer{e: api.ErrArg}) || l != nil {
					t.Error(i, roots, o, l)
				}
			}
		}
		for _, u := range []api.Table{source(), ill, over} {
			for _, id := range append([]int{len(u.Nodes), len(u.Nodes) + 1}, far...) {
				noOf(t, u, []int{id}, room, api.ErrArg)
				noOf(t, u, []int{sP, id}, room, api.ErrArg)
				noOf(t, u, []int{id, sP}, room, api.ErrArg)
				noOf(t, u, []int{len(u.Nodes) - 1, id}, room, api.ErrArg)
			}
		}
		noOf(t, ill, []int{sP}, room, api.ErrSort)
	}
}

// P12.2: a node whose Sort is not what its kind has, reached or not, ahead of
// all that comes of putting.
func TestOfSort(t *testing.T) {
	for _, n := range []api.Node{
		as(api.Int, not(sQ)),
		as(own, not(sQ)),
		not(sX),
		not(sA),
		and(sP, sX),
		and(sX, sP),
		as(api.Int, and(sP, sQ)),
		of(api.OpOr, api.Bool, sA, sB),
		of(api.OpXor, api.Bool, sX, sY),
		of(api.OpImp, api.Bool, sP, sY),
		as(own, of(api.OpImp, api.Bool, sP, sQ)),
		equal(sP, sX),
		equal(sX, sA),
		as(api.Int, equal(sX, sY)),
		as(own, equal(sA, sB)),
		of(api.OpIte, api.Int, sX, sX, sY),
		of(api.OpIte, api.Int, sP, sX, sQ),
		of(api.OpIte, api.Bool, sP, sX, sY),
		of(api.OpIte, other, sP, sA, sB),
		of(api.OpIte, own, sP, sX, sX),
		of(api.OpLe, api.Bool, sX, sP),
		of(api.OpLe, api.Int, sX, sY),
		of(api.OpLt, api.Bool, sA, sX),
		of(api.OpLt, own, sX, sY),
		as(api.Bool, number(5)),
		as(own, number(0)),
		as(api.Bool, plus(sX, 9)),
		plus(sP, 9),
		plus(sA, 0),
		less(sX, sQ, 9),
		less(sA, sB, 9),
		as(api.Int, less(sX, sY, 9)),
	} {
		u := source(n, plus(sX3, most))
		sound(t, u)
		for _, room := range []int{math.MinInt, 0, 2, 5, 99} {
			for _, roots := range [][]int{nil, {0}, {sP}, {sX}, {sEnd}, {sEnd + 1}, {sP, sEnd + 1}, {sEnd, sEnd + 1}} {
				noOf(t, u, roots, room, api.ErrSort)
			}
		}
		w := source(n)
		w.Nodes = append(w.Nodes[:sEnd:sEnd], app(9, n.Sort, n.Args[:n.Len]...)) // of functions nothing is asked
		if o, l := ofOf(w, []int{sEnd}, 99); o.e != api.OK || len(l) != 1 || o.t[l[0]].Sort != n.Sort {
			t.Error(n, o, l)
		}
	}
}

// P12.2: sums that leave the numbers that may be, and what comes of putting in
// its order.
func TestOfOver(t *testing.T) {
	over := func(l ...api.Node) {
		t.Helper()
		u := source(l...)
		sound(t, u)
		last := len(u.Nodes) - 1
		noOf(t, u, []int{last}, 99, api.ErrOver)
		noOf(t, u, []int{sX, sA, last}, 99, api.ErrOver)
		if o, _ := ofOf(u, []int{sX, sA, last - 1}, 99); o.e != api.OK {
			t.Error(o)
		}
	}
	over(plus(sX1, most))
	over(plus(s7, most-6))
	over(plus(sX, most), plus(sEnd, 1))
	over(plus(sX, -most), plus(sEnd, -1))
	over(number(most), plus(sEnd, most))
	over(plus(sX, -most), of(api.OpLt, api.Bool, sX, sEnd))
	over(plus(sX, most), of(api.OpLt, api.Bool, sEnd, sEnd)) // -1 less most, though most more would bring it back
	over(plus(sX, most), of(api.OpLt, api.Bool, sEnd, sY))
	over(less(sX, sY, most), less(sX, sX1, most))
	over(less(sX, sX1, -most), less(sX1, sX, -most))
	over(plus(sY, -most), of(api.OpLe, api.Bool, sX1, sEnd))
	over(plus(sY, most), plus(sX, -1), equal(sEnd, sEnd+1))
	over(plus(sX, most), plus(sX, -1), equal(sEnd, sEnd+1))
	within := func(image int, l ...api.Node) {
		t.Helper()
		if o, got := ofOf(source(l...), []int{sEnd + len(l) - 1}, 99); o.e != api.OK || !slices.Equal(got, []int{image}) {
			t.Error(o, got)
		}
	}
	within(4, plus(sX1, most-1))
	within(2, plus(sX, most), plus(sEnd, -most))
	within(0, plus(sX, most), of(api.OpLe, api.Bool, sEnd, sEnd))
	within(4, plus(sX, most-1), of(api.OpLt, api.Bool, sEnd, sEnd))
	within(5, plus(sY, most), of(api.OpLe, api.Bool, sX, sEnd))
	// ErrMany, if it comes ahead, and the other way about
	u := source(plus(sX1, most), and(sP, sQ))
	for room := range 9 {
		first, second := api.ErrOver, api.ErrOver
		if room < 4 {
			first = api.ErrMany
		}
		if room < 7 {
			second = api.ErrMany
		}
		noOf(t, u, []int{sEnd, sEnd + 1}, room, first)
		noOf(t, u, []int{sEnd + 1, sEnd}, room, second)
	}
}

// R1: a long chain, and a tree with more parts than could be gone over.
func TestOfLong(t *testing.T) {
	const n = 100000
	chain := table(app(0, api.Int))
	for range n {
		chain.Nodes = append(chain.Nodes, plus(len(chain.Nodes)-1, 1))
	}
	c, l, e := core.Of(chain, []int{n + 2}, math.MaxInt)
	if e != api.OK || len(c.Nodes) != n+3 || c.Nodes[l[0]] != plus(2, n) || !core.Is(c) {
		t.Error(len(c.Nodes), e)
	}
	chain = table(app(0, api.Bool))
	for range n {
		chain.Nodes = append(chain.Nodes, not(len(chain.Nodes)-1))
	}
	if c, l, e = core.Of(chain, []int{n + 2, n + 1}, 4); e != api.OK || !slices.Equal(l, []int{2, 3}) || len(c.Nodes) != 4 {
		t.Error(l, e)
	}
	tree := table(app(0, api.Bool))
	for range n {
		at := len(tree.Nodes) - 1
		tree.Nodes = append(tree.Nodes, of(api.OpImp, api.Bool, at, at))
	}
	if c, l, e = core.Of(tree, []int{n + 2}, math.MaxInt); e != api.OK || len(c.Nodes) != 2*n+3 || l[0] != 2*n+2 || !core.Is(c) {
		t.Error(len(c.Nodes), l, e)
	}
}
