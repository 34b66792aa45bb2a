package heap_test

import (
	"math"
	"slices"
	"testing"

	"gantry/api"
	"gantry/heap"
)

// What the chapter says of how many nodes there may be, and how active.
const (
	mostNodes = 1 << 16
	mostAct   = 1 << 40
)

// far are numbers that are no node of any heap.
var far = []int{math.MinInt, math.MinInt + 1, math.MinInt32 - 1, math.MinInt32, -mostNodes, -2, -1, mostNodes, mostNodes + 1, math.MaxInt32, math.MaxInt32 + 1, 1 << 32, 1<<32 + 1, 1 << 40, 1 << 62, math.MaxInt - 1, math.MaxInt}

// ok fails, if that is an error.
func ok(t *testing.T, e api.Errno) {
	t.Helper()
	if e != api.OK {
		t.Fatal(e)
	}
}

// full has that many nodes, all in.
func full(t *testing.T, n int) *heap.Heap {
	t.Helper()
	h := heap.New(n)
	for node := range n {
		ok(t, h.Put(node))
	}
	return h
}

// acted are nodes of these activities, all in.
func acted(t *testing.T, acts ...int) *heap.Heap {
	t.Helper()
	h := full(t, len(acts))
	for node, act := range acts {
		ok(t, h.Bump(node, act))
	}
	return h
}

// sorted fails, unless these are in, in that order.
func sorted(t *testing.T, h *heap.Heap, want ...int) {
	t.Helper()
	if l := h.Sorted(); !slices.Equal(l, want) || h.Len() != len(want) {
		t.Error(l, h.Len(), "not", want)
	}
}

// pops fails, unless these come, in that order, and then nothing.
func pops(t *testing.T, h *heap.Heap, want ...int) {
	t.Helper()
	for at, want := range want {
		if node, ok := h.Pop(); node != want || !ok || h.Has(node) {
			t.Error(at, node, ok, "not", want)
		}
	}
	none(t, h)
}

// none fails, if one is in.
func none(t *testing.T, h *heap.Heap) {
	t.Helper()
	for range 2 {
		if node, ok := h.Pop(); node != 0 || ok {
			t.Error("Pop", node, ok)
		}
		sorted(t, h)
	}
}

// The chapter's example.
func TestExample(t *testing.T) {
	h := heap.New(3)
	ok(t, h.Put(1))
	ok(t, h.Put(2))
	ok(t, h.Bump(2, 1))
	if node, ok := h.Pop(); node != 2 || !ok {
		t.Error(node, ok)
	}
}

// P18.1: how many nodes there may be; all are out, and not active.
func TestNew(t *testing.T) {
	for _, n := range far {
		if (heap.New(n) == nil) != (n != mostNodes) {
			t.Error(n)
		}
	}
	for _, n := range []int{0, 1, 2, 3, 17, mostNodes - 1, mostNodes} {
		h := heap.New(n)
		if h == nil {
			t.Fatal(n)
		}
		none(t, h)
		for node := range n {
			if h.Has(node) || h.Act(node) != 0 {
				t.Fatal(n, node)
			}
		}
		if h.Put(n) != api.ErrArg || h.Put(-1) != api.ErrArg || h.Bump(n, 0) != api.ErrArg || h.Bump(-1, 0) != api.ErrArg {
			t.Error("nodes that are none", n)
		}
		if n > 0 && (h.Put(n-1) != api.OK || h.Put(0) != api.OK || h.Bump(n-1, 1) != api.OK) {
			t.Error("nodes", n)
		}
	}
}

// P18.1: a node that is put is in, once, and as active as it was.
func TestPut(t *testing.T) {
	h := heap.New(4)
	for range 3 {
		ok(t, h.Put(2))
		sorted(t, h, 2)
		if !h.Has(2) || h.Has(1) || h.Act(2) != 0 {
			t.Error("2", h.Has(2), h.Has(1), h.Act(2))
		}
	}
	ok(t, h.Put(1))
	sorted(t, h, 1, 2)
	ok(t, h.Bump(3, 7)) // ahead of being put
	ok(t, h.Put(3))
	ok(t, h.Put(3))
	sorted(t, h, 3, 1, 2)
	if h.Act(3) != 7 {
		t.Error(h.Act(3))
	}
	pops(t, h, 3, 1, 2)
	ok(t, h.Put(3)) // again, behind being popped
	ok(t, h.Put(0))
	if h.Act(3) != 7 {
		t.Error(h.Act(3))
	}
	pops(t, h, 3, 0)
}

// P18.1: what is no node, and by how much is too much; nothing is changed by that.
func TestErrors(t *testing.T) {
	h := acted(t, 3, 5, 4)
	_, _ = h.Pop()
	for _, n := range append(slices.Clone(far), 3, 4) {
		if h.Put(n) != api.ErrArg || h.Bump(n, 1) != api.ErrArg || h.Bump(n, -1) != api.ErrArg || h.Has(n) || h.Act(n) != 0 {
			t.Error("node", n)
		}
	}
	for _, by := range []int{-1, -2, math.MinInt, math.MinInt32, -mostAct, mostAct + 1, 1 << 41, 1 << 62, math.MaxInt} {
		for node := range 3 {
			if h.Bump(node, by) != api.ErrArg {
				t.Error("by", node, by)
			}
		}
	}
	if h.Has(1) || h.Act(0) != 3 || h.Act(1) != 5 || h.Act(2) != 4 {
		t.Error("changed", h.Has(1), h.Act(0), h.Act(1), h.Act(2))
	}
	sorted(t, h, 2, 0)
	pops(t, h, 2, 0)
}

// P18.1: activities grow, in or out, up to the greatest one.
func TestBump(t *testing.T) {
	h := heap.New(4)
	ok(t, h.Put(0))
	for _, c := range []struct{ by, out, in int }{
		{0, 0, 0},
		{1, 1, 1},
		{0, 1, 1},
		{6, 7, 7},
		{mostAct - 8, mostAct - 1, mostAct - 1},
		{0, mostAct - 1, mostAct - 1},
		{1, mostAct, mostAct},
		{1, mostAct, mostAct},
		{mostAct, mostAct, mostAct},
		{0, mostAct, mostAct},
	} {
		ok(t, h.Bump(3, c.by))
		ok(t, h.Bump(0, c.by))
		if h.Act(3) != c.out || h.Act(0) != c.in || h.Has(3) || !h.Has(0) || h.Act(1) != 0 {
			t.Error(c, h.Act(3), h.Act(0), h.Has(3), h.Has(0), h.Act(1))
		}
	}
	ok(t, h.Bump(1, mostAct))
	ok(t, h.Bump(2, mostAct-1))
	ok(t, h.Bump(2, mostAct-1))
	if h.Act(1) != mostAct || h.Act(2) != mostAct {
		t.Error(h.Act(1), h.Act(2))
	}
	ok(t, h.Put(2))
	ok(t, h.Put(3))
	ok(t, h.Put(1))
	pops(t, h, 0, 1, 2, 3) // all are alike
}

// P18.1: a node that is in comes ahead when it is bumped, from wherever it stands.
func TestBumpFrom(t *testing.T) {
	for n := range 40 {
		for node := range n {
			h := full(t, n)
			ok(t, h.Bump(node, 1))
			want := []int{node}
			for other := range n {
				if other != node {
					want = append(want, other)
				}
			}
			sorted(t, h, want...)
			pops(t, h, want...)
		}
	}
}

// P18.1: halves are rounded down, of all nodes, in or out.
func TestHalve(t *testing.T) {
	acts := []int{0, 1, 2, 3, 4, 5, 7, 8, mostAct, mostAct - 1}
	h := heap.New(len(acts))
	for node, act := range acts {
		ok(t, h.Bump(node, act))
		if node%2 == 0 {
			ok(t, h.Put(node))
		}
	}
	for range 45 {
		h.Halve()
		for node := range acts {
			acts[node] /= 2
			if h.Act(node) != acts[node] || h.Has(node) != (node%2 == 0) {
				t.Error(node, h.Act(node), h.Has(node))
			}
		}
	}
	pops(t, h, 0, 2, 4, 6, 8)
	ok(t, h.Bump(8, mostAct))
	h.Halve()
	ok(t, h.Bump(8, 1))
	if h.Act(8) != mostAct/2+1 {
		t.Error(h.Act(8))
	}
}

// P18.3: those that halving makes alike come by their nodes.
func TestHalveAlike(t *testing.T) {
	h := acted(t, 2, 3, 4, 5)
	sorted(t, h, 3, 2, 1, 0)
	h.Halve() // 1 1 2 2
	sorted(t, h, 2, 3, 0, 1)
	pops(t, h, 2, 3, 0, 1)

	h = acted(t, 0, 1)
	h.Halve()
	pops(t, h, 0, 1)

	for n := range 40 {
		h, want := heap.New(n), []int{}
		for node := range n { // each ahead of all lesser ones
			ok(t, h.Put(node))
			ok(t, h.Bump(node, node))
			want = append(want, node)
		}
		for range 6 {
			h.Halve() // the last time, if not ahead of it, all are 0
		}
		sorted(t, h, want...)
		pops(t, h, want...)
	}
}

// P18.2: the first is the one of the greatest activity, of two alike the lesser.
func TestPop(t *testing.T) {
	for _, c := range []struct {
		acts, want []int
	}{
		{nil, nil},
		{[]int{0}, []int{0}},
		{[]int{5, 5}, []int{0, 1}},
		{[]int{4, 5}, []int{1, 0}},
		{[]int{5, 4}, []int{0, 1}},
		{[]int{0, 0, 0, 0}, []int{0, 1, 2, 3}},
		{[]int{1, 2, 3, 4, 5}, []int{4, 3, 2, 1, 0}},
		{[]int{5, 4, 3, 2, 1}, []int{0, 1, 2, 3, 4}},
		{[]int{2, 1, 2, 1, 2, 3}, []int{5, 0, 2, 4, 1, 3}},
		{[]int{0, mostAct, mostAct - 1, mostAct}, []int{1, 3, 2, 0}},
		{[]int{1 << 31, 1 << 32, 1<<32 + 1, 1<<31 - 1, 1, 1 << 39}, []int{5, 2, 1, 0, 3, 4}},
	} {
		h := acted(t, c.acts...)
		sorted(t, h, c.want...)
		pops(t, h, c.want...)
	}
}

// P18.2: what is popped is out, but keeps its activity; others are told as ahead.
func TestPopKeeps(t *testing.T) {
	h := acted(t, 3, 9, 4)
	if node, ok := h.Pop(); node != 1 || !ok || h.Has(1) || h.Act(1) != 9 || h.Len() != 2 || !h.Has(0) || !h.Has(2) {
		t.Error(node, ok, h.Has(1), h.Act(1), h.Len())
	}
	sorted(t, h, 2, 0)
	ok(t, h.Bump(1, 1)) // it is out, and stays so
	sorted(t, h, 2, 0)
	ok(t, h.Bump(0, 6))
	ok(t, h.Put(1))
	sorted(t, h, 1, 0, 2)
	pops(t, h, 1, 0, 2)
	if h.Act(0) != 9 || h.Act(1) != 10 || h.Act(2) != 4 {
		t.Error(h.Act(0), h.Act(1), h.Act(2))
	}
}

// P18.2, R1: of nil.
func TestNil(t *testing.T) {
	var h *heap.Heap
	h.Halve()
	none(t, h)
	for _, n := range append(slices.Clone(far), 0, 1) {
		if h.Put(n) != api.ErrNil || h.Bump(n, 1) != api.ErrNil || h.Bump(0, n) != api.ErrNil || h.Has(n) || h.Act(n) != 0 {
			t.Error(n)
		}
	}
}

// R1: one that New has not made has no nodes.
func TestZero(t *testing.T) {
	for _, h := range []*heap.Heap{new(heap.Heap), {}, heap.New(0)} {
		for range 2 {
			h.Halve()
			none(t, h)
			for _, n := range append(slices.Clone(far), 0, 1) {
				if h.Put(n) != api.ErrArg || h.Bump(n, 1) != api.ErrArg || h.Bump(0, n) != api.ErrArg || h.Has(n) || h.Act(n) != 0 {
					t.Error(n)
				}
			}
		}
	}
}

// R1, R3: a copy is one with what it is of, so that neither goes wrong by what is
// done with the other.
func TestCopy(t *testing.T) {
	h := acted(t, 3, 5, 4, 1)
	c := *h
	if node, ok := c.Pop(); node != 1 || !ok {
		t.Error(node, ok)
	}
	sorted(t, h, 2, 0, 3)
	ok(t, h.Put(1))
	ok(t, c.Bump(3, 9))
	sorted(t, h, 3, 1, 2, 0)
	sorted(t, &c, 3, 1, 2, 0)
	pops(t, &c, 3, 1, 2, 0)
	none(t, h)
}

// R3, R4: what is told is new memory, and of one heap alone.
func TestMemory(t *testing.T) {
	h, other := acted(t, 1, 2, 3, 4, 5), acted(t, 5, 4, 3, 2, 1)
	one, two := h.Sorted(), h.Sorted()
	one = one[:cap(one)]
	for i := range one {
		one[i] = -9
	}
	if !slices.Equal(two, []int{4, 3, 2, 1, 0}) {
		t.Error("shared", two)
	}
	sorted(t, h, 4, 3, 2, 1, 0)
	was := h.Sorted()
	pops(t, h, was...)
	h.Halve()
	ok(t, h.Bump(0, 70))
	if !slices.Equal(was, []int{4, 3, 2, 1, 0}) {
		t.Error("kept", was)
	}
	sorted(t, other, 0, 1, 2, 3, 4)
	for node := range 5 {
		if other.Act(node) != 5-node {
			t.Error("one with another", node, other.Act(node))
		}
	}
}

// R3: asking changes nothing.
func TestAsking(t *testing.T) {
	asked, silent := acted(t, 4, 1, 4, 2, 9), acted(t, 4, 1, 4, 2, 9)
	for range 7 {
		for n := range 6 {
			_, _, _, _ = asked.Has(n), asked.Act(n), asked.Len(), asked.Sorted()
		}
		if a, b := asked.Sorted(), silent.Sorted(); !slices.Equal(a, b) {
			t.Error(a, b)
		}
		a, isA := asked.Pop()
		if b, isB := silent.Pop(); a != b || isA != isB {
			t.Error(a, b)
		}
		asked.Halve()
		silent.Halve()
	}
}

// P18.1, P18.2: as many nodes as there may be, in little time.
func TestGreat(t *testing.T) {
	h := full(t, mostNodes)
	for node := range mostNodes { // the last one is the most active
		ok(t, h.Bump(node, 40*node))
	}
	for range 3 {
		h.Halve()
	}
	l := h.Sorted()
	for at, node := range l {
		if node != mostNodes-1-at || h.Act(node) != 5*node {
			t.Fatal(at, node, h.Act(node))
		}
	}
	for range 4 { // each is popped and put again
		for at, want := range l {
			if node, ok := h.Pop(); node != want || !ok || h.Len() != mostNodes-1-at {
				t.Fatal(at, node, ok)
			}
		}
		none(t, h)
		for at := range l {
			ok(t, h.Put(at*5%mostNodes))
		}
	}
	for range 100 { // the first one comes back at once
		ok(t, h.Bump(l[len(l)-1], mostAct))
		if node, is := h.Pop(); node != 0 || !is {
			t.Fatal(node, is)
		}
		ok(t, h.Put(0))
	}
	for range 45 {
		h.Halve()
	}
	for want := range mostNodes {
		if node, ok := h.Pop(); node != want || !ok {
			t.Fatal(want, node, ok)
		}
	}
	none(t, h)
}
