package tests

import (
	"fmt"
	"reflect"
	"slices"
	"testing"

	"loop.example/g00376/impl"
)

// planted is a heap made from trees, with what is to be told of each node as it
// is known from the making of it.
type planted struct {
	heap  impl.Heap
	ids   []int64 // in the order in which they were given out
	order map[int64][]int64
	above map[int64][]int64
	trees map[int64]impl.Tree
}

// plant gives the Ids out node by node, each ahead of all below it. The first
// tree's root is Doc; each Tag is told by the place among all nodes.
func plant(forest []impl.Tree, ids []int64) *planted {
	p := &planted{order: map[int64][]int64{}, above: map[int64][]int64{}, trees: map[int64]impl.Tree{}}
	for _, t := range forest {
		p.grow(t, nil, ids)
	}
	slices.SortFunc(p.heap.Nodes, func(a, b impl.Node) int { return int(a.Id - b.Id) })
	p.heap.Doc = ids[0]
	p.heap.Next = slices.Max(ids) + 1
	return p
}

func (p *planted) grow(t impl.Tree, above []int64, ids []int64) int64 {
	n := impl.Node{Id: ids[len(p.ids)], Tag: "t" + string(rune('a'+len(p.ids)))}
	p.ids = append(p.ids, n.Id)
	if len(above) > 0 {
		n.Parent = above[0]
	}
	way := append([]int64{n.Id}, above...)
	order := []int64{n.Id}
	tree := impl.Tree{Tag: n.Tag}
	for _, kid := range t.Kids {
		id := p.grow(kid, way, ids)
		n.Kids = append(n.Kids, id)
		order = append(order, p.order[id]...)
		tree.Kids = append(tree.Kids, p.trees[id])
	}
	p.heap.Nodes = append(p.heap.Nodes, n)
	p.order[n.Id], p.above[n.Id], p.trees[n.Id] = order, way, tree
	return n.Id
}

// allPlanted are all forests of few nodes under all orders of their Ids, and
// some with as many nodes as there is room for.
func allPlanted() []*planted {
	var all []*planted
	for size := 1; size <= 5; size++ {
		for _, forest := range forests(size, []string{"a"}) {
			for _, ids := range permutations([]int64{1, 2, 4, 7, 8}[:size]) {
				all = append(all, plant(forest, ids))
			}
		}
	}
	var up, down, far []int64
	for i := range int64(16) {
		up, down, far = append(up, i+1), append(down, 99-i), append(far, 1+(i*7)%16*62500000)
	}
	for _, shape := range shapes {
		for _, ids := range [][]int64{up, down, far} {
			all = append(all, plant([]impl.Tree{shape("a", 16)}, ids))
			all = append(all, plant([]impl.Tree{shape("a", 7), shape("a", 1), shape("a", 8)}, ids))
		}
	}
	return all
}

func TestTreesOfPlantedHeaps(t *testing.T) {
	for _, p := range allPlanted() {
		if !isRight(p.heap) {
			t.Fatal("not planted right", p.heap)
		}
		for _, id := range p.ids {
			if got := impl.Above(p.heap, id); !slices.Equal(got, p.above[id]) {
				t.Fatalf("%+v: above %d: %v, want %v", p.heap, id, got, p.above[id])
			}
			if got := impl.InOrder(p.heap, id); !slices.Equal(got, p.order[id]) {
				t.Fatalf("%+v: below %d: %v, want %v", p.heap, id, got, p.order[id])
			}
			if got, ok := impl.TreeOf(p.heap, id); !ok || !sameTree(got, p.trees[id]) {
				t.Fatalf("%+v: tree of %d: %v %v, want %v", p.heap, id, got, ok, p.trees[id])
			}
			for _, b := range p.ids {
				if got := impl.Contains(p.heap, id, b); got != slices.Contains(p.above[b], id) {
					t.Fatalf("%+v: %d contains %d: %v", p.heap, id, b, got)
				}
			}
		}
	}
}

// Promise 3, without a word on the order of kids.
func TestAllBelowComeOnceBehindTheirParents(t *testing.T) {
	small, full := smallHeap(), fullHeap()
	heaps := []impl.Heap{small, full, impl.HeapNew()}
	for _, p := range allPlanted() {
		heaps = append(heaps, p.heap)
	}
	for _, h := range heaps {
		for _, n := range h.Nodes {
			below := impl.InOrder(h, n.Id)
			for _, m := range h.Nodes {
				both := impl.Contains(h, n.Id, m.Id) && impl.Contains(h, m.Id, n.Id)
				if both != (n.Id == m.Id) {
					t.Fatal(h, n.Id, m.Id, "contain one another:", both)
				}
				at := slices.Index(below, m.Id)
				if (at >= 0) != impl.Contains(h, n.Id, m.Id) {
					t.Fatal(h, n.Id, "contains", m.Id, "but", below)
				}
				if at >= 0 && slices.Contains(below[at+1:], m.Id) {
					t.Fatal(h, m.Id, "comes twice in", below)
				}
				if at >= 0 && m.Id != n.Id && slices.Index(below[:at], m.Parent) < 0 {
					t.Fatal(h, m.Id, "comes ahead of its parent in", below)
				}
			}
			if len(below) == 0 || below[0] != n.Id {
				t.Fatal(h, n.Id, "does not come first in", below)
			}
		}
	}
}

func TestTreesOfSmallHeap(t *testing.T) {
	h := smallHeap()
	for _, c := range []struct {
		id    int64
		above []int64
		order []int64
		text  string
	}{
		{1, []int64{1}, []int64{1, 6, 8, 3}, "<doc><div><p></p></div><p></p></doc>"},
		{3, []int64{3, 1}, []int64{3}, "<p></p>"},
		{6, []int64{6, 1}, []int64{6, 8}, "<div><p></p></div>"},
		{8, []int64{8, 6, 1}, []int64{8}, "<p></p>"},
		{9, []int64{9}, []int64{9}, "<li></li>"},
		{2, nil, nil, ""},
		{4, nil, nil, ""},
		{10, nil, nil, ""},
		{11, nil, nil, ""},
	} {
		above, order := impl.Above(h, c.id), impl.InOrder(h, c.id)
		if !slices.Equal(above, c.above) || !slices.Equal(order, c.order) {
			t.Error(c.id, above, order)
		}
		tree, ok := impl.TreeOf(h, c.id)
		if ok != (c.text != "") || impl.TreeText(tree) != c.text {
			t.Error(c.id, tree, ok)
		}
		for id := int64(-1); id <= 12; id++ {
			if impl.Contains(h, id, c.id) != slices.Contains(c.above, id) {
				t.Error(id, c.id)
			}
		}
	}
}

// noTrees asks that nothing is told of a node that is none.
func noTrees(t *testing.T, what string, h impl.Heap, id int64) {
	t.Helper()
	if l := impl.Above(h, id); len(l) != 0 {
		t.Error(what, id, "above:", l)
	}
	if l := impl.InOrder(h, id); len(l) != 0 {
		t.Error(what, id, "in order:", l)
	}
	if tree, ok := impl.TreeOf(h, id); ok || tree.Tag != "" || len(tree.Kids) != 0 {
		t.Error(what, id, "tree:", tree, ok)
	}
	others := append(impl.InOrder(h, h.Doc), 0, id)
	for _, other := range others {
		if impl.Contains(h, id, other) || impl.Contains(h, other, id) {
			t.Error(what, id, other, "one contains the other")
		}
	}
}

func TestTreesOfNothing(t *testing.T) {
	for name, h := range map[string]impl.Heap{"new": impl.HeapNew(), "small": smallHeap(), "full": fullHeap()} {
		none := slices.Clone(idsOfNothing)
		for _, o := range h.Objs {
			none = append(none, o.Id)
		}
		for _, id := range append(none, h.Next) {
			noTrees(t, name, h, id)
		}
	}
}

func TestTreesOfHeapsThatAreNotRight(t *testing.T) {
	defer endsSoon("trees of heaps that are not right")()
	heapsNotRight(func(what string, h impl.Heap) {
		for id := int64(-1); id <= 35; id++ {
			noTrees(t, what, h, id)
		}
	})
}

func TestTreesAreNewMemory(t *testing.T) {
	for _, given := range []impl.Heap{smallHeap(), fullHeap(), allPlanted()[500].heap} {
		h := sparedHeap(given)
		was := shown(h)
		for _, n := range h.Nodes {
			tree, _ := impl.TreeOf(h, n.Id)
			again, _ := impl.TreeOf(h, n.Id)
			answers := []any{impl.Above(h, n.Id), impl.InOrder(h, n.Id), tree}
			more := []any{impl.Above(h, n.Id), impl.InOrder(h, n.Id), again}
			if !reflect.DeepEqual(answers, more) {
				t.Fatal("not the same answers", answers, more)
			}
			sharesNothing(t, append(answers, more...), []any{h})
			impl.Contains(h, n.Id, h.Doc)
		}
		if shown(h) != was {
			t.Fatal("written into", fmt.Sprint(h))
		}
	}
}
