package tests

import (
	"fmt"
	"maps"
	"math/rand"
	"reflect"
	"slices"
	"strings"
	"testing"

	"loop.example/g00376/impl"
)

// heldIn tells anew, by Id, what each node and each object of a heap holds.
func heldIn(h impl.Heap) map[int64][]int64 {
	held := map[int64][]int64{}
	for _, n := range h.Nodes {
		held[n.Id] = without0(append(append([]int64{n.Parent}, n.Kids...), n.Wrapper))
	}
	for _, o := range h.Objs {
		held[o.Id] = []int64{o.Node}
		for _, f := range o.Fields {
			held[o.Id] = append(held[o.Id], f.Obj)
		}
		held[o.Id] = without0(held[o.Id])
	}
	return held
}

func without0(l []int64) []int64 {
	return slices.DeleteFunc(l, func(id int64) bool { return id == 0 })
}

// heldOutside are Doc and what Globals hold, as often as they hold it.
func heldOutside(h impl.Heap) []int64 {
	l := []int64{h.Doc}
	for _, g := range h.Globals {
		l = append(l, g.Obj)
	}
	return l
}

// closed adds what is held by what is there until nothing is new.
func closed(held map[int64][]int64, first []int64) []int64 {
	in := map[int64]bool{}
	for _, id := range first {
		in[id] = true
	}
	for was := -1; was != len(in); {
		was = len(in)
		for _, id := range slices.Sorted(maps.Keys(in)) {
			for _, to := range held[id] {
				in[to] = true
			}
		}
	}
	return slices.Sorted(maps.Keys(in))
}

func everyId(h impl.Heap) []int64 { return slices.Sorted(maps.Keys(heldIn(h))) }

func countsIn(h impl.Heap) []impl.Count {
	all := heldOutside(h)
	for _, l := range heldIn(h) {
		all = append(all, l...)
	}
	var counts []impl.Count
	for _, id := range everyId(h) {
		c := impl.Count{Id: id}
		for _, to := range all {
			if to == id {
				c.N++
			}
		}
		counts = append(counts, c)
	}
	return counts
}

func unreachedIn(h impl.Heap) []int64 {
	reached := closed(heldIn(h), heldOutside(h))
	return slices.DeleteFunc(everyId(h), func(id int64) bool { return slices.Contains(reached, id) })
}

// leftOf is h without those with these Ids.
func leftOf(h impl.Heap, gone []int64) impl.Heap {
	left := impl.Heap{Next: h.Next, Doc: h.Doc, Globals: h.Globals}
	for _, n := range h.Nodes {
		if !slices.Contains(gone, n.Id) {
			left.Nodes = append(left.Nodes, n)
		}
	}
	for _, o := range h.Objs {
		if !slices.Contains(gone, o.Id) {
			left.Objs = append(left.Objs, o)
		}
	}
	return left
}

// asksReach holds all that is told of reach against the tellings above.
func asksReach(t *testing.T, h impl.Heap) {
	t.Helper()
	held := heldIn(h)
	for id, want := range held {
		if got := impl.EdgesOf(h, id); !slices.Equal(got, want) {
			t.Fatalf("%+v: %d holds %v, want %v", h, id, got, want)
		}
	}
	if got, want := impl.Reached(h), closed(held, heldOutside(h)); !slices.Equal(got, want) {
		t.Fatalf("%+v: reached %v, want %v", h, got, want)
	}
	if got, want := impl.CountsOf(h), countsIn(h); !slices.Equal(got, want) {
		t.Fatalf("%+v: counts %v, want %v", h, got, want)
	}
	left, gone, ok := impl.Collected(h)
	if want := unreachedIn(h); !ok || !slices.Equal(gone, want) || !sameHeap(left, leftOf(h, want)) || !isRight(left) {
		t.Fatalf("%+v: collected %v %v, left %+v, want %v", h, gone, ok, left, want)
	}
}

// asksLeft is for heaps of which one knows by hand what is not reached.
func asksLeft(t *testing.T, what string, h impl.Heap, gone ...int64) {
	t.Helper()
	if !isRight(h) {
		t.Fatal(what, "is not right", h)
	}
	asksReach(t, h)
	left, got, ok := impl.Collected(h)
	if !ok || !slices.Equal(got, gone) || left.Next != h.Next || left.Doc != h.Doc || !slices.Equal(left.Globals, h.Globals) {
		t.Errorf("%s: collected %v %v, want %v; left %+v", what, got, ok, gone, left)
	}
	reached := impl.Reached(h)
	for _, id := range everyId(h) {
		if slices.Contains(gone, id) == slices.Contains(reached, id) {
			t.Errorf("%s: %d is collected and reached, or neither: %v", what, id, reached)
		}
	}
	again, more, ok := impl.Collected(left)
	if !ok || len(more) != 0 || !sameHeap(again, left) || !slices.Equal(impl.Reached(left), reached) {
		t.Errorf("%s: collected again: %v %+v", what, more, again)
	}
}

func TestReachOfSmallHeap(t *testing.T) {
	h := smallHeap()
	for _, c := range []struct {
		id    int64
		holds []int64
		n     int64
	}{
		{1, []int64{6, 3, 2}, 4},    // by 3, 6, 2, and as Doc
		{2, []int64{1, 7, 2, 4}, 3}, // by 1, itself, d
		{3, []int64{1}, 1},
		{4, []int64{5}, 3}, // by 2, e, z
		{5, nil, 1},
		{6, []int64{1, 8, 7}, 3}, // by 1, 8, 7
		{7, []int64{6}, 3},       // by 2, 6, ea
		{8, []int64{6}, 1},
		{9, nil, 0},
	} {
		if got := impl.EdgesOf(h, c.id); !slices.Equal(got, c.holds) {
			t.Error(c.id, "holds", got)
		}
		if got := impl.CountsOf(h)[c.id-1]; got.Id != c.id || got.N != c.n {
			t.Error(c, "counts", got)
		}
	}
	asksLeft(t, "small", h, 9)
	if got := impl.Reached(h); !slices.Equal(got, []int64{1, 2, 3, 4, 5, 6, 7, 8}) {
		t.Error(got)
	}
}

func TestDocAlone(t *testing.T) {
	h := impl.HeapNew()
	asksLeft(t, "new", h)
	if len(impl.EdgesOf(h, 1)) != 0 || !slices.Equal(impl.Reached(h), []int64{1}) || !slices.Equal(impl.CountsOf(h), []impl.Count{{Id: 1, N: 1}}) {
		t.Error(impl.EdgesOf(h, 1), impl.Reached(h), impl.CountsOf(h))
	}
	wrapped := did(t, h, opDoc("d"), opDrop("d")) // its wrapper is held by Doc alone
	asksLeft(t, "wrapped", wrapped)
	far := impl.Heap{Next: impl.MaxId, Doc: impl.MaxId - 1, Nodes: []impl.Node{{Id: 1, Tag: "a"}, {Id: impl.MaxId - 1, Tag: "b"}}, Objs: []impl.Obj{{Id: 2}}}
	asksLeft(t, "the last node is Doc", far, 1, 2)
}

func TestAllButDocIsCollected(t *testing.T) {
	h := fullHeap()
	h.Globals = nil
	h.Nodes[0].Kids, h.Nodes[0].Wrapper = nil, 0
	h.Objs[0].Node = 0
	var gone []int64
	for i := range h.Nodes[1:] {
		h.Nodes[i+1].Parent = 0
		gone = append(gone, h.Nodes[i+1].Id)
	}
	for _, o := range h.Objs {
		gone = append(gone, o.Id)
	}
	slices.Sort(gone)
	if len(gone) != 31 {
		t.Fatal(gone)
	}
	asksLeft(t, "full", h, gone...)
	left, _, _ := impl.Collected(h)
	if want := (impl.Heap{Next: h.Next, Doc: 1, Nodes: h.Nodes[:1]}); !sameHeap(left, want) {
		t.Errorf("%+v", left)
	}
}

func TestNothingIsCollected(t *testing.T) {
	asksLeft(t, "full", fullHeap())
	asksLeft(t, "story", storyHeap(t))
	h := fullHeap()
	h.Globals = nil // all is held by Doc
	asksLeft(t, "full, without names", h)
}

// In each of these a node is reached by way of one below it.
func TestHeldByAKidAlone(t *testing.T) {
	h := impl.Heap{Next: 12, Doc: 1,
		Nodes: []impl.Node{
			{Id: 1, Tag: "doc"},
			{Id: 3, Tag: "ul", Kids: []int64{5, 8}},
			{Id: 5, Tag: "li", Parent: 3, Wrapper: 2},
			{Id: 8, Tag: "li", Parent: 3, Kids: []int64{9}},
			{Id: 9, Tag: "em", Parent: 8},
			{Id: 10, Tag: "p", Kids: []int64{11}},
			{Id: 11, Tag: "em", Parent: 10},
		},
		Objs:    []impl.Obj{{Id: 2, Node: 5}},
		Globals: []impl.Field{{Name: "a", Obj: 2}},
	}
	asksLeft(t, "its brother and its parent stay", h, 10, 11)
	lone := h
	lone.Nodes = slices.Clone(h.Nodes)
	lone.Nodes[1].Kids = []int64{5}
	lone.Nodes[3].Parent = 0
	asksLeft(t, "its parent stays", lone, 8, 9, 10, 11)
	if c := impl.CountsOf(lone)[2]; c != (impl.Count{Id: 3, N: 1}) {
		t.Error("not held by its kid alone", c)
	}
	asksLeft(t, "nobody holds the kid", did(t, h, opDrop("a")), 2, 3, 5, 8, 9, 10, 11)
	deep := did(t, impl.HeapNew(), opElement("a", "p"))
	for range 10 { // a is the lowest one each time
		deep = did(t, deep, opElement("b", "p"), opAppend("a", "b"), opFirst("a", "a"))
	}
	deep = did(t, deep, opDrop("b"))
	asksLeft(t, "ten above the one that is held", deep)
	asksLeft(t, "then none", did(t, deep, opDrop("a")), everyId(deep)[1:]...)
}

func obj(id int64, holds ...int64) impl.Obj {
	o := impl.Obj{Id: id}
	for i, to := range holds {
		o.Fields = append(o.Fields, impl.Field{Name: string(rune('a' + i)), Obj: to})
	}
	return o
}

func TestCirclesOfObjects(t *testing.T) {
	h := impl.HeapNew()
	h.Next = 9
	h.Objs = []impl.Obj{obj(2, 2), obj(3, 4), obj(4, 3), obj(5, 6), obj(6, 7), obj(7, 5, 8), obj(8)}
	asksLeft(t, "three rings", h, 2, 3, 4, 5, 6, 7, 8)
	h.Globals = []impl.Field{{Name: "a", Obj: 6}}
	asksLeft(t, "one of them held", h, 2, 3, 4)
	h.Objs[6] = obj(8, 4)
	asksLeft(t, "which holds another one", h, 2)
	h.Globals = []impl.Field{{Name: "a", Obj: 4}}
	asksLeft(t, "which does not hold it back", h, 2, 5, 6, 7, 8)
}

func TestCirclesOfNodes(t *testing.T) {
	h := did(t, storyHeap(t), opDrop("e"), opDrop("f"))
	asksLeft(t, "a tree apart", h, 9, 10, 11, 12)
	h = did(t, h, opDetach("a"), opDrop("a"))
	asksLeft(t, "one that is held by its kid's name", h, 9, 10, 11, 12)
	h = did(t, h, opDrop("c"))
	asksLeft(t, "now none holds it, nor what it holds but another name does", h, 3, 4, 7, 8, 9, 10, 11, 12)
	h = did(t, h, opDrop("o"))
	asksLeft(t, "nor that name", h, 3, 4, 7, 8, 9, 10, 11, 12, 13)
}

// The ring: node 3, its kid 5, that one's wrapper 6, its field 9, which holds
// the wrapper 4 of node 3.
func TestCirclesOverBothKinds(t *testing.T) {
	h := impl.Heap{Next: 12, Doc: 1,
		Nodes: []impl.Node{{Id: 1, Tag: "doc", Wrapper: 2}, {Id: 3, Tag: "p", Kids: []int64{5}, Wrapper: 4}, {Id: 5, Tag: "em", Parent: 3, Wrapper: 6}},
		Objs:  []impl.Obj{obj(2), obj(4), obj(6, 9), obj(9, 4), obj(10, 9)},
	}
	h.Objs[0].Node, h.Objs[1].Node, h.Objs[2].Node = 1, 3, 5
	asksLeft(t, "held by none", h, 3, 4, 5, 6, 9, 10)
	for _, id := range []int64{4, 6, 9} {
		h.Globals = []impl.Field{{Name: "a", Obj: id}}
		asksLeft(t, fmt.Sprint("held at ", id), h, 10)
	}
	h.Globals[0].Obj = 10
	asksLeft(t, "held by one that is held", h)
	h.Globals = nil
	h.Objs[0].Fields = []impl.Field{{Name: "x", Obj: 9}}
	asksLeft(t, "held by Doc's wrapper", h, 10)
	h.Objs[0].Fields, h.Objs[2].Fields = nil, []impl.Field{{Name: "x", Obj: 2}}
	asksLeft(t, "what holds Doc is not held by that", h, 3, 4, 5, 6, 9, 10)
}

func TestHeldTwiceByTheSame(t *testing.T) {
	h := impl.HeapNew()
	h.Next = 5
	h.Objs = []impl.Obj{obj(2, 3, 3, 4, 2, 2), obj(3), obj(4, 2)}
	h.Globals = []impl.Field{{Name: "a", Obj: 2}, {Name: "b", Obj: 3}, {Name: "c", Obj: 3}}
	if got := impl.EdgesOf(h, 2); !slices.Equal(got, []int64{3, 3, 4, 2, 2}) {
		t.Error(got)
	}
	if got := impl.CountsOf(h); !slices.Equal(got, []impl.Count{{Id: 1, N: 1}, {Id: 2, N: 4}, {Id: 3, N: 4}, {Id: 4, N: 1}}) {
		t.Error(got)
	}
	asksLeft(t, "twice", h)
	h.Globals = h.Globals[1:]
	asksLeft(t, "twice by one that is not reached", h, 2, 4)
	if got := impl.CountsOf(h); !slices.Equal(got, []impl.Count{{Id: 1, N: 1}, {Id: 2, N: 3}, {Id: 3, N: 4}, {Id: 4, N: 1}}) {
		t.Error("what is not reached holds, too:", got)
	}
}

// fewHeaps are all heaps of Doc, a node apart from it, its kid and three objects
// in which the objects hold any of them and wrap some, with any of Globals.
func fewHeaps(each func(h impl.Heap)) {
	ids := []int64{2, 4, 6}
	some := func(set int) []int64 {
		var l []int64
		for i, id := range ids {
			if set>>i&1 == 1 {
				l = append(l, id)
			}
		}
		return l
	}
	wraps := [][3]int64{{}, {1, 0, 0}, {0, 3, 0}, {5, 0, 0}, {1, 3, 0}, {0, 5, 3}, {3, 5, 1}, {5, 1, 0}}
	for sets := range 8 * 8 * 8 * 8 {
		for _, w := range wraps {
			h := impl.Heap{Next: 7, Doc: 1, Nodes: []impl.Node{{Id: 1, Tag: "doc"}, {Id: 3, Tag: "p", Kids: []int64{5}}, {Id: 5, Tag: "em", Parent: 3}}}
			for i, id := range ids {
				o := obj(id, some(sets>>(3*i)&7)...)
				o.Node = w[i]
				h.Objs = append(h.Objs, o)
				if w[i] != 0 {
					h.Nodes[w[i]/2].Wrapper = id
				}
			}
			h.Globals = obj(0, some(sets>>9)...).Fields
			each(h)
		}
	}
}

func TestReachOfFewThings(t *testing.T) {
	heaps, gone := 0, map[int]int{}
	fewHeaps(func(h impl.Heap) {
		if heaps%97 == 0 && !isRight(h) {
			t.Fatal(h)
		}
		heaps++
		asksReach(t, h)
		_, l, _ := impl.Collected(h)
		gone[len(l)]++
	})
	for n := range 6 {
		if gone[n] == 0 {
			t.Error("never are so many collected:", n)
		}
	}
}

func TestReachOfPlantedHeaps(t *testing.T) {
	for i, p := range allPlanted() {
		h := p.heap
		asksReach(t, h)
		if want := slices.Sorted(slices.Values(p.order[h.Doc])); !slices.Equal(impl.Reached(h), want) {
			t.Fatal(h, impl.Reached(h), want)
		}
		if i%7 == 0 { // all above and below one that is held is reached from it
			at := i / 7 % len(h.Nodes)
			h.Nodes[at].Wrapper = h.Next
			h.Objs, h.Globals = []impl.Obj{{Id: h.Next, Node: h.Nodes[at].Id}}, []impl.Field{{Name: "a", Obj: h.Next}}
			h.Next++
			if h.Next <= impl.MaxId {
				asksReach(t, h)
			}
		}
	}
}

// wanderOps are such as leave things that nobody holds.
func wanderOps() []impl.Op {
	ops := allOps(strings.Split("abcd", ""), []string{"x", "y"})
	for _, a := range strings.Split("abcd", "") {
		for range 3 {
			ops = append(ops, opElement(a, "p"), opElement(a, "div"), opObject(a), opDrop(a), opDoc(a))
		}
		for _, b := range strings.Split("abcd", "") {
			ops = append(ops, opAppend(a, b), opAppend(a, b), opSet(a, "x", b), opSet(a, "y", b), opFirst(a, b))
		}
	}
	return ops
}

// wandered are the heaps on random ways, behind each op.
func wandered(seed int64, ways, steps int, each func(h impl.Heap)) {
	r := rand.New(rand.NewSource(seed))
	ops := wanderOps()
	for range ways {
		h := impl.HeapNew()
		for range steps {
			h, _ = impl.Ran(h, ops[r.Intn(len(ops))])
			each(h)
		}
	}
}

func TestReachOfWanderedHeaps(t *testing.T) {
	gone := map[int]int{}
	wandered(3, 100, 60, func(h impl.Heap) {
		asksReach(t, h)
		gone[len(unreachedIn(h))]++
	})
	if len(gone) < 10 {
		t.Error("too much alike", gone)
	}
}

// seesTheSame asks of two heaps all that can be asked by names, or from Doc.
func seesTheSame(t *testing.T, a, b impl.Heap) {
	t.Helper()
	if docText(a) != docText(b) || a.Next != b.Next || !slices.Equal(a.Globals, b.Globals) || !slices.Equal(impl.Reached(a), impl.Reached(b)) {
		t.Fatalf("%+v\n%+v", a, b)
	}
	for _, g := range a.Globals {
		m, is := impl.NodeOf(a, g.Name)
		n, ok := impl.NodeOf(b, g.Name)
		if m != n || is != ok || !slices.Equal(impl.Above(a, m), impl.Above(b, n)) || !slices.Equal(impl.InOrder(a, m), impl.InOrder(b, n)) {
			t.Fatalf("%+v\n%+v: %s", a, b, g.Name)
		}
		for _, f := range []string{"x", "y"} {
			c, is := impl.FieldOf(a, g.Name, f)
			d, ok := impl.FieldOf(b, g.Name, f)
			if c != d || is != ok {
				t.Fatalf("%+v\n%+v: %s %s", a, b, g.Name, f)
			}
		}
	}
	left, _, _ := impl.Collected(a)
	too, _, _ := impl.Collected(b)
	if !sameHeap(left, too) {
		t.Fatalf("%+v\n%+v", left, too)
	}
}

// Promise 5: of three heaps one is never collected, one at first, and one behind
// each op. Where the first has no room for an op the ways part.
func TestNobodySeesThatItWasCollected(t *testing.T) {
	r := rand.New(rand.NewSource(9))
	ops := wanderOps()
	full, collected, done := 0, 0, 0
	for way := range 150 {
		h := impl.HeapNew()
		for range 5 + way%40 {
			h, _ = impl.Ran(h, ops[r.Intn(len(ops))])
		}
		once, gone, _ := impl.Collected(h)
		always := once
		collected += len(gone)
		for range 60 {
			o := ops[r.Intn(len(ops))]
			after, code := impl.Ran(h, o)
			if code == impl.HpFull {
				full++
				break
			}
			next, code1 := impl.Ran(once, o)
			last, code2 := impl.Ran(always, o)
			if code != code1 || code != code2 {
				t.Fatalf("%+v\n%+v: %v: %d, collected once %d, always %d", h, once, o, code, code1, code2)
			}
			seesTheSame(t, after, next)
			seesTheSame(t, after, last)
			h, once = after, next
			always, gone, _ = impl.Collected(last)
			collected += len(gone)
			if code == impl.HpDone {
				done++
			}
		}
	}
	if full < 30 || full > 120 || collected < 500 || done < 1000 {
		t.Error("too much alike", full, collected, done)
	}
}

// Where there was no room there is some, when what nobody holds is collected.
func TestCollectedMakesRoom(t *testing.T) {
	h := impl.HeapNew()
	for len(h.Nodes) < impl.MaxNodes {
		h = did(t, h, opElement("a", "p"))
	}
	refuses(t, "no room", h, opElement("a", "p"), impl.HpFull)
	left, gone, ok := impl.Collected(h)
	if !ok || len(gone) != 28 || len(left.Nodes) != 2 || len(left.Objs) != 1 {
		t.Fatal(left, gone, ok)
	}
	after := did(t, left, opElement("a", "p"))
	if after.Next != h.Next+2 || global(after, "a") != h.Next+1 {
		t.Error(after)
	}
}

// noReach asks for the answers that are fixed for heaps that are not right.
func noReach(t *testing.T, what string, h impl.Heap) {
	t.Helper()
	for id := int64(-1); id <= 14; id++ {
		if l := impl.EdgesOf(h, id); len(l) != 0 {
			t.Error(what, id, "holds", l)
		}
	}
	left, gone, ok := impl.Collected(h)
	if ok || len(gone) != 0 || !sameHeap(left, impl.Heap{}) {
		t.Error(what, "collected", gone, ok, left)
	}
	if l, c := impl.Reached(h), impl.CountsOf(h); len(l) != 0 || len(c) != 0 {
		t.Error(what, "reached", l, "counts", c)
	}
}

func TestReachOfHeapsThatAreNotRight(t *testing.T) {
	defer endsSoon("reach of heaps that are not right")()
	heapsNotRight(func(what string, h impl.Heap) { noReach(t, what, h) })
}

func TestNothingIsHeldByNothing(t *testing.T) {
	for _, h := range []impl.Heap{impl.HeapNew(), smallHeap(), fullHeap(), storyHeap(t)} {
		for _, id := range append(slices.Clone(idsOfNothing), h.Next) {
			if l := impl.EdgesOf(h, id); len(l) != 0 {
				t.Error(id, "holds", l)
			}
		}
	}
}

func TestReachIsNewMemory(t *testing.T) {
	bare := did(t, storyHeap(t), opDrop("e"), opDrop("f"))
	for _, given := range []impl.Heap{impl.HeapNew(), smallHeap(), fullHeap(), bare} {
		h := sparedHeap(given)
		was := shown(h)
		for _, id := range everyId(h) {
			l, again := impl.EdgesOf(h, id), impl.EdgesOf(h, id)
			sharesNothing(t, []any{l, again}, []any{h})
			if !slices.Equal(l, again) {
				t.Fatal("not the same answers", l, again)
			}
		}
		left, gone, _ := impl.Collected(h)
		more, went, _ := impl.Collected(h)
		answers := []any{left, gone, impl.Reached(h), impl.CountsOf(h)}
		again := []any{more, went, impl.Reached(h), impl.CountsOf(h)}
		if !reflect.DeepEqual(answers, again) {
			t.Fatal("not the same answers", answers, again)
		}
		sharesNothing(t, append(answers, again...), []any{h})
		if shown(h) != was {
			t.Fatal("written into", h)
		}
	}
}
