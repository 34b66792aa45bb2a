package heap_test

import (
	"slices"
	"testing"

	"gantry/api"
	"gantry/heap"
)

// words is a heap as the chapter's words have it: the activity of each node, and
// whether it is in.
type words struct {
	acts []int
	in   []bool
}

func newWords(n int) *words { return &words{make([]int, n), make([]bool, n)} }

func (w *words) is(node int) bool { return node >= 0 && node < len(w.acts) }

func (w *words) put(node int) api.Errno {
	if !w.is(node) {
		return api.ErrArg
	}
	w.in[node] = true
	return api.OK
}

func (w *words) bump(node, by int) api.Errno {
	if !w.is(node) || by < 0 || by > 1<<40 {
		return api.ErrArg
	}
	w.acts[node] += by
	if w.acts[node] > 1<<40 {
		w.acts[node] = 1 << 40
	}
	return api.OK
}

func (w *words) halve() {
	for node := range w.acts {
		w.acts[node] /= 2
	}
}

// first is the one of the greatest activity that is in: nodes rise, so that a
// later one has to be above, not alike.
func (w *words) first() (node int, ok bool) {
	for n, in := range w.in {
		if in && (!ok || w.acts[n] > w.acts[node]) {
			node, ok = n, true
		}
	}
	return node, ok
}

func (w *words) pop() (node int, ok bool) {
	if node, ok = w.first(); ok {
		w.in[node] = false
	}
	return node, ok
}

// sorted is what is first, then what is first of the others, and so on.
func (w *words) sorted() (l []int) {
	left := words{w.acts, slices.Clone(w.in)}
	for node, ok := left.pop(); ok; node, ok = left.pop() {
		l = append(l, node)
	}
	return l
}

// A pair are a heap, and what the words say of it.
type pair struct {
	h *heap.Heap
	w *words
}

func newPair(n int) pair { return pair{heap.New(n), newWords(n)} }

// What may be done with a pair.
const (
	put = iota
	bump
	halve
	pop
)

// An act is one of these.
type act struct{ kind, node, by int }

// do does it, and fails, if what is answered is not what the words say.
func (p pair) do(t *testing.T, a act) {
	t.Helper()
	switch a.kind {
	case put:
		if e, want := p.h.Put(a.node), p.w.put(a.node); e != want {
			t.Fatal("Put", a.node, e, "not", want)
		}
	case bump:
		if e, want := p.h.Bump(a.node, a.by), p.w.bump(a.node, a.by); e != want {
			t.Fatal("Bump", a.node, a.by, e, "not", want)
		}
	case halve:
		p.h.Halve()
		p.w.halve()
	case pop:
		node, ok := p.h.Pop()
		if want, is := p.w.pop(); node != want || ok != is {
			t.Fatal("Pop", node, ok, "not", want, is)
		}
	}
}

// hold fails, unless all that can be told of the heap is what the words say.
func (p pair) hold(t *testing.T) {
	t.Helper()
	in := 0
	for node := range p.w.acts {
		if p.h.Has(node) != p.w.in[node] || p.h.Act(node) != p.w.acts[node] {
			t.Fatal("node", node, p.h.Has(node), p.h.Act(node), "not", p.w.in[node], p.w.acts[node])
		}
		if p.w.in[node] {
			in++
		}
	}
	for _, node := range []int{-1, len(p.w.acts)} {
		if p.h.Has(node) || p.h.Act(node) != 0 {
			t.Fatal("no node", node, p.h.Has(node), p.h.Act(node))
		}
	}
	if n := p.h.Len(); n != in {
		t.Fatal("Len", n, "not", in)
	}
	if l, want := p.h.Sorted(), p.w.sorted(); !slices.Equal(l, want) {
		t.Fatal("Sorted", l, "not", want)
	}
}

// empty pops all, and fails, if they do not come in Sorted's order.
func (p pair) empty(t *testing.T) {
	t.Helper()
	want := p.h.Sorted()
	var l []int
	for node, ok := p.h.Pop(); ok; node, ok = p.h.Pop() {
		l = append(l, node)
	}
	if !slices.Equal(l, want) || !slices.Equal(l, p.w.sorted()) {
		t.Fatal("Popping all", l, "not", want)
	}
	for ok := true; ok; {
		_, ok = p.w.pop()
	}
	p.hold(t)
}

// shortActs are all that may be done with three nodes.
func shortActs() []act {
	l := []act{{kind: halve}, {kind: pop}}
	for node := range 3 {
		l = append(l, act{put, node, 0}, act{bump, node, 1})
	}
	return l
}

// P18.1 to P18.3: all short rows of acts, and popping all behind each.
func TestShort(t *testing.T) {
	acts := shortActs()
	const long = 6
	rows := 1
	for range long {
		rows *= len(acts)
	}
	for row := range rows {
		p := newPair(3)
		for left := row; left > 0; left /= len(acts) {
			p.do(t, acts[left%len(acts)])
		}
		p.hold(t)
		p.empty(t)
	}
}

// A draw is a row of numbers that looks like no rule, and is the same each time.
type draw uint64

// below is the next one, from 0 to n - 1.
func (d *draw) below(n int) int {
	*d = *d*6364136223846793005 + 1442695040888963407
	return int(uint64(*d) >> 33 % uint64(n))
}

// by is how much more active a node gets: little, so that many are alike, or
// around the bound.
func (d *draw) by() int {
	switch d.below(12) {
	case 0:
		return 1<<40 - d.below(3)
	case 1:
		return 1<<39 + d.below(3) - 1
	case 2:
		return d.below(1 << 20)
	}
	return d.below(4)
}

// act is one of n nodes, or now and then of none of these.
func (d *draw) act(n int) act {
	node := d.below(n+1) - d.below(40)/39
	switch d.below(16) {
	case 0:
		return act{kind: halve}
	case 1, 2, 3:
		return act{kind: pop}
	case 4:
		return act{bump, node, []int{-1, 1<<40 + 1}[d.below(2)]}
	case 5, 6, 7, 8, 9:
		return act{bump, node, d.by()}
	}
	return act{put, node, 0}
}

// P18.1 to P18.3: made rows of acts, held against the words behind each act.
func TestMade(t *testing.T) {
	d := draw(1)
	for range 1500 {
		n := 1 + d.below(40)
		p := newPair(n)
		for range 20 + d.below(150) {
			p.do(t, d.act(n))
			p.hold(t)
			if d.below(200) == 0 {
				p.empty(t)
			}
		}
		p.empty(t)
	}
}

// P18.1 to P18.3: many nodes, held against the words now and then.
func TestMadeGreat(t *testing.T) {
	d := draw(2)
	for range 25 {
		n := 200 + d.below(1500)
		p := newPair(n)
		for range 3 {
			for range 3 * n {
				if a := d.act(n); a.kind != pop && a.kind != halve || d.below(40) == 0 {
					p.do(t, a)
				}
			}
			p.hold(t)
			p.do(t, act{kind: halve})
			p.hold(t)
		}
		p.empty(t)
	}
}

// P18.3: halving keeps who is ahead, or makes them alike; then the lesser node is.
func TestHalvingKeeps(t *testing.T) {
	d, kept, alike := draw(3), 0, 0
	for range 3000 {
		n := 2 + d.below(20)
		p := newPair(n)
		for node := range n {
			p.do(t, act{put, node, 0})
			p.do(t, act{bump, node, d.below(12)})
		}
		was := p.h.Sorted()
		p.h.Halve()
		is := p.h.Sorted()
		for i, a := range was {
			for _, b := range was[i+1:] {
				switch ahead := slices.Index(is, a) < slices.Index(is, b); {
				case p.h.Act(a) < p.h.Act(b):
					t.Fatal("turned about", a, b)
				case p.h.Act(a) > p.h.Act(b) && !ahead, p.h.Act(a) == p.h.Act(b) && ahead != (a < b):
					t.Fatal("order", a, b, is)
				case ahead:
					kept++
				default:
					alike++
				}
			}
		}
	}
	if kept < 10000 || alike < 5000 {
		t.Error("too few", kept, alike)
	}
}
