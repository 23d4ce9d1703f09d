package tests

import (
	"fmt"
	"math"
	"math/rand"
	"reflect"
	"slices"
	"strings"
	"testing"

	"loop.example/g00376/impl"
)

// rises tells whether a list rises and has Ids of h alone.
func rises(h impl.Heap, l []int64) bool {
	all := everyId(h)
	for i, id := range l {
		if !slices.Contains(all, id) || i > 0 && l[i-1] >= id {
			return false
		}
	}
	return true
}

// mustBeMarked are Doc, what Globals hold, and what is held by what is Black,
// told anew.
func mustBeMarked(h impl.Heap, black []int64) []int64 {
	l, held := heldOutside(h), heldIn(h)
	for _, id := range black {
		l = append(l, held[id]...)
	}
	return l
}

// isMarker tells anew what a right marker of a right heap is.
func isMarker(h impl.Heap, m impl.Marker) bool {
	both := append(slices.Clone(m.Gray), m.Black...)
	slices.Sort(both)
	if !rises(h, m.Gray) || !rises(h, m.Black) || len(slices.Compact(slices.Clone(both))) < len(both) {
		return false
	}
	for _, id := range mustBeMarked(h, m.Black) {
		if !slices.Contains(both, id) {
			return false
		}
	}
	return true
}

func sameMarker(a, b impl.Marker) bool {
	return slices.Equal(a.Gray, b.Gray) && slices.Equal(a.Black, b.Black)
}

func marks(gray, black []int64) impl.Marker { return impl.Marker{Gray: gray, Black: black} }

// grayed is m with these Gray, too, unless they have a colour.
func grayed(m impl.Marker, ids []int64) impl.Marker {
	all := append(slices.Clone(m.Gray), ids...)
	all = slices.DeleteFunc(all, func(id int64) bool { return slices.Contains(m.Black, id) })
	slices.Sort(all)
	return marks(slices.Compact(all), slices.Clone(m.Black))
}

// markedIn tells n steps of marking anew.
func markedIn(h impl.Heap, m impl.Marker, n int) impl.Marker {
	for ; n > 0 && len(m.Gray) > 0; n-- {
		first := m.Gray[0]
		black := append(slices.Clone(m.Black), first)
		slices.Sort(black)
		m = grayed(marks(m.Gray[1:], black), heldIn(h)[first])
	}
	return m
}

// barredIn tells an op beside marks anew.
func barredIn(h impl.Heap, m impl.Marker, o impl.Op) (impl.Heap, impl.Marker, int64) {
	after, code := modelRan(h, o)
	if code != 0 {
		return h, m, code
	}
	return after, grayed(m, mustBeMarked(after, m.Black)), 0
}

// notBlack are those of h that a sweep would take.
func notBlack(h impl.Heap, m impl.Marker) []int64 {
	return slices.DeleteFunc(everyId(h), func(id int64) bool { return slices.Contains(m.Black, id) })
}

// asksMarker holds the marking and sweeping by a right marker against the
// tellings above.
func asksMarker(t *testing.T, h impl.Heap, m impl.Marker) {
	t.Helper()
	if !isMarker(h, m) || !impl.MarkerOk(h, m) {
		t.Fatalf("%+v: %+v is not right", h, m)
	}
	for _, n := range []int{0, 1, 2, 100} {
		want := markedIn(h, m, n)
		if got, ok := impl.Marked(h, m, int64(n)); !ok || !sameMarker(got, want) || !isMarker(h, got) {
			t.Fatalf("%+v: %+v marked %d: %+v %v, want %+v", h, m, n, got, ok, want)
		}
	}
	left, gone, ok := impl.Swept(h, m)
	if len(m.Gray) > 0 {
		if ok || len(gone) > 0 || !sameHeap(left, impl.Heap{}) {
			t.Fatalf("%+v: %+v swept: %v %v %+v", h, m, gone, ok, left)
		}
		return
	}
	if want := notBlack(h, m); !ok || !slices.Equal(gone, want) || !sameHeap(left, leftOf(h, want)) || !isRight(left) {
		t.Fatalf("%+v: %+v swept: %v %v, left %+v, want %v", h, m, gone, ok, left, want)
	}
}

// asksBarred holds an op beside marks against the telling above.
func asksBarred(t *testing.T, h impl.Heap, m impl.Marker, o impl.Op) (impl.Heap, impl.Marker, int64) {
	t.Helper()
	want, marks, code := barredIn(h, m, o)
	after, got, is := impl.Barred(h, m, o)
	if is != code || !sameHeap(after, want) || !sameMarker(got, marks) || !isMarker(after, got) {
		t.Fatalf("%+v\n%+v: %+v: %d %+v\n%+v, want %d %+v\n%+v", h, m, o, is, got, after, code, marks, want)
	}
	return after, got, code
}

// noMarker asks for the answers that are fixed for a marker that is not right.
func noMarker(t *testing.T, what string, h impl.Heap, m impl.Marker) {
	t.Helper()
	if impl.MarkerOk(h, m) {
		t.Error(what, m, "is right")
	}
	for _, n := range []int64{-1, 0, 1, 100, 101} {
		if got, ok := impl.Marked(h, m, n); ok || !sameMarker(got, impl.Marker{}) {
			t.Error(what, m, "marked", n, got, ok)
		}
	}
	for _, o := range []impl.Op{opObject("a"), opDrop("z"), {}, opElement("", "")} {
		if after, got, code := impl.Barred(h, m, o); code != impl.HpWrong || !sameMarker(got, impl.Marker{}) || !sameHeap(after, impl.Heap{}) {
			t.Error(what, m, "barred", o, after, got, code)
		}
	}
	if left, gone, ok := impl.Swept(h, m); ok || len(gone) > 0 || !sameHeap(left, impl.Heap{}) {
		t.Error(what, m, "swept", left, gone, ok)
	}
}

func begun(t *testing.T, h impl.Heap) impl.Marker {
	t.Helper()
	m, ok := impl.MarkBegun(h)
	if want := grayed(impl.Marker{}, heldOutside(h)); !ok || !sameMarker(m, want) {
		t.Fatalf("%+v: begun %+v %v, want %+v", h, m, ok, want)
	}
	return m
}

func marked(t *testing.T, h impl.Heap, m impl.Marker, n int64) impl.Marker {
	t.Helper()
	asksMarker(t, h, m)
	after, ok := impl.Marked(h, m, n)
	if !ok {
		t.Fatalf("%+v: %+v is not marked", h, m)
	}
	return after
}

// barred is what comes of an op that is done.
func barred(t *testing.T, h impl.Heap, m impl.Marker, o impl.Op) (impl.Heap, impl.Marker) {
	t.Helper()
	after, got, code := asksBarred(t, h, m, o)
	if code != impl.HpDone {
		t.Fatalf("%+v: %+v is refused: %d", h, o, code)
	}
	return after, got
}

// has asks for marks that are known by hand.
func has(t *testing.T, what string, m impl.Marker, gray, black []int64) {
	t.Helper()
	if !sameMarker(m, marks(gray, black)) {
		t.Errorf("%s: %+v, want gray %v, black %v", what, m, gray, black)
	}
}

// sweeps marks what is left and asks for what is swept then, which is known by
// hand.
func sweeps(t *testing.T, what string, h impl.Heap, m impl.Marker, want ...int64) {
	t.Helper()
	m = marked(t, h, m, 100)
	asksMarker(t, h, m)
	if _, gone, ok := impl.Swept(h, m); !ok || !slices.Equal(gone, want) {
		t.Errorf("%s: swept %v %v, want %v", what, gone, ok, want)
	}
	neverReached(t, h, want)
}

func TestMarkingOfSmallHeap(t *testing.T) {
	h := smallHeap()
	m := begun(t, h)
	has(t, "begun", m, []int64{1, 2, 4, 7}, nil)
	for i, want := range []impl.Marker{
		marks([]int64{2, 3, 4, 6, 7}, []int64{1}),
		marks([]int64{3, 4, 6, 7}, []int64{1, 2}),
		marks([]int64{4, 6, 7}, []int64{1, 2, 3}),
		marks([]int64{5, 6, 7}, []int64{1, 2, 3, 4}),
		marks([]int64{6, 7}, []int64{1, 2, 3, 4, 5}),
		marks([]int64{7, 8}, []int64{1, 2, 3, 4, 5, 6}),
		marks([]int64{8}, []int64{1, 2, 3, 4, 5, 6, 7}),
		marks(nil, []int64{1, 2, 3, 4, 5, 6, 7, 8}),
		marks(nil, []int64{1, 2, 3, 4, 5, 6, 7, 8}),
	} {
		at, ok := impl.Marked(h, begun(t, h), int64(i+1))
		m = marked(t, h, m, 1)
		if !ok || !sameMarker(m, want) || !sameMarker(at, want) {
			t.Errorf("step %d: %+v, at once %+v, want %+v", i+1, m, at, want)
		}
	}
	sweeps(t, "the one apart", h, m, 9)
}

// What is Gray first is the lowest one, also when it came last.
func TestLowestIsFirst(t *testing.T) {
	h := impl.HeapNew()
	h.Next = 7
	h.Objs = []impl.Obj{obj(2), obj(3, 2), obj(4, 2, 3), obj(5), obj(6, 2)}
	h.Globals = []impl.Field{{Name: "a", Obj: 5}, {Name: "b", Obj: 4}}
	m := begun(t, h)
	has(t, "begun", m, []int64{1, 4, 5}, nil)
	m = marked(t, h, m, 1)
	has(t, "Doc", m, []int64{4, 5}, []int64{1})
	m = marked(t, h, m, 1)
	has(t, "then 4", m, []int64{2, 3, 5}, []int64{1, 4})
	m = marked(t, h, m, 1)
	has(t, "then 2", m, []int64{3, 5}, []int64{1, 2, 4})
	sweeps(t, "one that holds, but is not held", h, m, 6)
}

func TestDocAloneIsMarked(t *testing.T) {
	h := impl.HeapNew()
	m := begun(t, h)
	has(t, "begun", m, []int64{1}, nil)
	has(t, "no step", marked(t, h, m, 0), []int64{1}, nil)
	has(t, "a step", marked(t, h, m, 1), nil, []int64{1})
	has(t, "a hundred", marked(t, h, m, 100), nil, []int64{1})
	sweeps(t, "nothing", h, m)
	left, _, _ := impl.Swept(h, marks(nil, []int64{1}))
	if !sameHeap(left, h) {
		t.Error(left)
	}
}

func TestCountsOfSteps(t *testing.T) {
	for _, h := range []impl.Heap{impl.HeapNew(), smallHeap(), fullHeap(), storyHeap(t)} {
		for _, m := range []impl.Marker{begun(t, h), markedIn(h, begun(t, h), 2), markedIn(h, begun(t, h), 100)} {
			for _, n := range []int64{-1, -2, 101, 102, math.MinInt64, math.MaxInt64, 1 << 32, 1<<32 + 1} {
				if got, ok := impl.Marked(h, m, n); ok || !sameMarker(got, impl.Marker{}) {
					t.Error(n, got, ok)
				}
			}
			for n := range 101 {
				if got, ok := impl.Marked(h, m, int64(n)); !ok || !sameMarker(got, markedIn(h, m, n)) {
					t.Fatal(n, got, ok)
				}
			}
		}
	}
}

// As many steps as there are things, and no fewer, go through a full heap.
func TestFullHeapIsMarked(t *testing.T) {
	h := fullHeap()
	m := begun(t, h)
	has(t, "begun", m, []int64{1, 999999999}, nil)
	if got := marked(t, h, m, 31); len(got.Gray) != 1 || len(got.Black) != 31 {
		t.Error(got)
	}
	if got := marked(t, h, m, 32); len(got.Gray) != 0 || !slices.Equal(got.Black, everyId(h)) {
		t.Error(got)
	}
	sweeps(t, "nothing", h, m)
}

// Black may be what nobody reaches, and Gray what nobody holds: a marker need
// not have come of steps.
func TestMarksThatAreRight(t *testing.T) {
	h := smallHeap()
	for _, m := range []impl.Marker{
		marks([]int64{1, 2, 4, 7}, nil),
		marks([]int64{1, 2, 4, 7, 9}, nil),
		marks([]int64{1, 2, 4, 7}, []int64{9}),
		marks([]int64{1, 2, 4, 7}, []int64{5, 9}),
		marks(everyId(h), nil),
		marks(nil, everyId(h)),
		marks(nil, []int64{1, 2, 3, 4, 5, 6, 7, 8}),
		marks([]int64{9}, []int64{1, 2, 3, 4, 5, 6, 7, 8}),
		marks([]int64{1, 2, 6, 7}, []int64{3, 4, 5, 8}),
		marks([]int64{2, 3, 4, 6, 7}, []int64{1}),
	} {
		asksMarker(t, h, m)
	}
	if _, gone, ok := impl.Swept(h, marks(nil, everyId(h))); !ok || len(gone) != 0 {
		t.Error("what is Black stays", gone, ok)
	}
}

func TestMarksThatAreNotRight(t *testing.T) {
	defer endsSoon("marks that are not right")()
	h := smallHeap()
	for what, m := range map[string]impl.Marker{
		"none":                                {},
		"Doc is not marked":                   marks([]int64{2, 4, 7}, nil),
		"a global is not marked":              marks([]int64{1, 2, 4}, nil),
		"the first global is not marked":      marks([]int64{1, 4, 7}, nil),
		"gray falls":                          marks([]int64{1, 4, 2, 7}, nil),
		"the last falls":                      marks([]int64{1, 2, 7, 4}, nil),
		"one twice gray":                      marks([]int64{1, 2, 4, 4, 7}, nil),
		"the first twice gray":                marks([]int64{1, 1, 2, 4, 7}, nil),
		"black falls":                         marks([]int64{1, 2, 4, 7}, []int64{9, 5}),
		"one twice black":                     marks([]int64{1, 2, 4, 7}, []int64{5, 5}),
		"one in both":                         marks([]int64{1, 2, 4, 5, 7}, []int64{5}),
		"another in both":                     marks([]int64{1, 2, 4, 7, 9}, []int64{9}),
		"gray is 0":                           marks([]int64{0, 1, 2, 4, 7}, nil),
		"gray is below 0":                     marks([]int64{-1, 1, 2, 4, 7}, nil),
		"gray is not there":                   marks([]int64{1, 2, 4, 7, 10}, nil),
		"gray is Next":                        marks([]int64{1, 2, 4, 7, 11}, nil),
		"black is 0":                          marks([]int64{1, 2, 4, 7}, []int64{0}),
		"black is below 0":                    marks([]int64{1, 2, 4, 7}, []int64{math.MinInt64}),
		"black is not there":                  marks([]int64{1, 2, 4, 7}, []int64{10}),
		"black is far off":                    marks([]int64{1, 2, 4, 7}, []int64{math.MaxInt64}),
		"gray is right but for 32 bits":       marks([]int64{1, 2, 4, 7 + 1<<32}, nil),
		"a black one's Kid is not marked":     marks([]int64{2, 4, 6, 7}, []int64{1}),
		"its other Kid is not":                marks([]int64{2, 3, 4, 7}, []int64{1}),
		"a black one's Node is not":           marks([]int64{1, 2, 4}, []int64{7}),
		"a black one's Parent is not":         marks([]int64{1, 2, 4, 7}, []int64{8}),
		"a black one's field is not":          marks([]int64{1, 2, 7}, []int64{4}),
		"all is black but for what one holds": marks(nil, []int64{1, 2, 3, 4, 6, 7, 8}),
	} {
		if isMarker(h, m) {
			t.Error(what, "breaks nothing")
		}
		noMarker(t, what, h, m)
	}
	unnamed := did(t, h, opDrop("ea"), opUnset("d", "a"))
	noMarker(t, "a black one's Wrapper is not", unnamed, marks([]int64{1, 2, 4, 8}, []int64{6}))
	asksMarker(t, unnamed, marks([]int64{1, 2, 4, 7, 8}, []int64{6}))
	for _, none := range append(slices.Clone(idsOfNothing), h.Next) {
		noMarker(t, "gray", h, marks(slices.Sorted(slices.Values([]int64{none, 1, 2, 4, 7})), nil))
		noMarker(t, "black", h, marks([]int64{1, 2, 4, 7}, []int64{none}))
		noMarker(t, "black beside others", h, marks(nil, slices.Sorted(slices.Values(append(everyId(h), none)))))
	}
	noMarker(t, "very many", h, marks(slices.Repeat([]int64{1, 2, 4, 7}, 1<<18), nil))
	noMarker(t, "very many black", h, marks([]int64{1, 2, 4, 7}, slices.Repeat([]int64{9}, 1<<20)))
	noMarker(t, "marks of another heap", impl.HeapNew(), begun(t, h))
}

func TestMarkingOfHeapsThatAreNotRight(t *testing.T) {
	defer endsSoon("marking of heaps that are not right")()
	heapsNotRight(func(what string, h impl.Heap) {
		if m, ok := impl.MarkBegun(h); ok || !sameMarker(m, impl.Marker{}) {
			t.Error(what, "begun", m, ok)
		}
		for _, m := range []impl.Marker{{}, marks([]int64{1, 2, 4, 7}, nil), marks(nil, []int64{1, 2, 3, 4, 5, 6, 7, 8}), marks([]int64{1}, nil)} {
			noMarker(t, what, h, m)
		}
	})
}

// What is made while it is marked is called by a name, and so is Gray, whatever
// is Black by then; and what it brings with it is gone through from there.
func TestMadeWhileMarked(t *testing.T) {
	h := did(t, impl.HeapNew(), opDoc("d"), opObject("a"))
	m := marked(t, h, begun(t, h), 100)
	has(t, "all is black", m, nil, []int64{1, 2, 3})
	h, m = barred(t, h, m, opElement("b", "p"))
	has(t, "a node and its object", m, []int64{5}, []int64{1, 2, 3})
	h, m = barred(t, h, m, opObject("c"))
	has(t, "an object", m, []int64{5, 6}, []int64{1, 2, 3})
	h, m = barred(t, h, m, opAppend("d", "b"))
	has(t, "its node below a black one", m, []int64{4, 5, 6}, []int64{1, 2, 3})
	h, m = barred(t, h, m, opSet("a", "x", "c"))
	has(t, "held by a black one", m, []int64{4, 5, 6}, []int64{1, 2, 3})
	h, m = barred(t, h, m, opDrop("b"))
	h, m = barred(t, h, m, opDrop("c"))
	has(t, "gray stays", m, []int64{4, 5, 6}, []int64{1, 2, 3})
	sweeps(t, "nothing", h, m)
}

// The same of what has no name any more ahead of the next step.
func TestMadeAndDroppedWhileMarked(t *testing.T) {
	h := impl.HeapNew()
	m := marked(t, h, begun(t, h), 1)
	h, m = barred(t, h, m, opElement("a", "p"))
	h, m = barred(t, h, m, opDrop("a"))
	has(t, "its object was called by a name", m, []int64{3}, []int64{1})
	sweeps(t, "nothing: it stays until it is marked anew", h, m)
	sweeps(t, "then both", h, begun(t, h), 2, 3)
}

func TestWrappersMadeWhileMarked(t *testing.T) {
	h := did(t, impl.HeapNew(), opDoc("d"), opElement("a", "p"), opElement("b", "li"), opAppend("d", "a"), opAppend("a", "b"))
	h = did(t, h, opDrop("a"), opDrop("b"), opDrop("d"))
	h.Objs, h.Nodes[0].Wrapper, h.Nodes[1].Wrapper, h.Nodes[2].Wrapper = nil, 0, 0, 0
	m := marked(t, h, begun(t, h), 2)
	has(t, "Doc and its kid", m, []int64{5}, []int64{1, 3})
	h, m = barred(t, h, m, opDoc("d"))
	has(t, "Doc's object is new, Doc is black", m, []int64{5, 7}, []int64{1, 3})
	h, m = barred(t, h, m, opFirst("d", "a"))
	has(t, "the kid's, too", m, []int64{5, 7, 8}, []int64{1, 3})
	h, m = barred(t, h, m, opFirst("a", "b"))
	h, m = barred(t, h, m, opDetach("b"))
	h, m = barred(t, h, m, opDrop("b"))
	has(t, "detached and dropped", m, []int64{5, 7, 8, 9}, []int64{1, 3})
	sweeps(t, "nothing", h, m)
	sweeps(t, "marked anew", h, begun(t, h), 5, 9)
}

// One that is held by what is not gone through yet goes to what is Black: it is
// never come to from where it was.
func TestMovedToBlack(t *testing.T) {
	h := did(t, impl.HeapNew(), opObject("a"), opObject("z"), opObject("x"), opSet("z", "f", "x"), opDrop("x"))
	m := marked(t, h, begun(t, h), 2)
	has(t, "a is gone through, z not", m, []int64{3}, []int64{1, 2})
	h, m = barred(t, h, m, opGet("z", "f", "x"))
	has(t, "called by a name", m, []int64{3, 4}, []int64{1, 2})
	h, m = barred(t, h, m, opSet("a", "f", "x"))
	h, m = barred(t, h, m, opUnset("z", "f"))
	h, m = barred(t, h, m, opDrop("x"))
	sweeps(t, "nothing", h, m)
	h, m = barred(t, h, m, opUnset("a", "f"))
	sweeps(t, "what nobody holds any more, but was Gray", h, m)
	sweeps(t, "then", h, begun(t, h), 4)
}

// The same of a node, which no name ever holds while it is put elsewhere.
func TestNodeMovedToBlack(t *testing.T) {
	h := did(t, impl.HeapNew(), opDoc("d"), opElement("a", "ul"), opElement("b", "p"), opElement("c", "li"), opAppend("b", "c"))
	if global(h, "a") != 4 || global(h, "b") != 6 || global(h, "c") != 8 {
		t.Fatal(h)
	}
	m := marked(t, h, begun(t, h), 2)
	has(t, "d is gone through; a, b, c are not", m, []int64{4, 6, 8}, []int64{1, 2})
	h, m = barred(t, h, m, opAppend("d", "b"))
	has(t, "its node, but none below that", m, []int64{4, 5, 6, 8}, []int64{1, 2})
	after, more := barred(t, h, m, opBefore("b", "c"))
	has(t, "ahead of it", more, []int64{4, 5, 6, 7, 8}, []int64{1, 2})
	sweeps(t, "one that was never put below a black one comes from its object", after, more)
	h, m = barred(t, h, m, opDetach("b"))
	has(t, "gray stays when it is detached", m, []int64{4, 5, 6, 8}, []int64{1, 2})
	for _, name := range []string{"b", "c", "a"} {
		h, m = barred(t, h, m, opDrop(name))
	}
	sweeps(t, "nothing: all were gray", h, m)
	sweeps(t, "marked anew", h, begun(t, h), 3, 4, 5, 6, 7, 8)
}

// What was Black stays, though nobody holds it any more; what was not marked by
// then goes.
func TestHeldNoMoreWhileMarked(t *testing.T) {
	h := storyHeap(t)
	m := marked(t, h, begun(t, h), 100)
	was := h
	for _, name := range []string{"e", "f", "o", "c"} {
		h, m = barred(t, h, m, opDrop(name))
	}
	h, m = barred(t, h, m, opUnset("a", "x"))
	sweeps(t, "all were black", h, m)
	sweeps(t, "marked anew", h, begun(t, h), 9, 10, 11, 12, 13)
	early := begun(t, did(t, was, opDrop("e"), opDrop("f")))
	sweeps(t, "dropped ahead of marking", did(t, was, opDrop("e"), opDrop("f")), early, 9, 10, 11, 12)
}

// A field that goes ahead of the step that would have come to it.
func TestUnsetAheadOfItsStep(t *testing.T) {
	h := did(t, impl.HeapNew(), opObject("a"), opObject("b"), opSet("a", "x", "b"), opDrop("b"))
	m := marked(t, h, begun(t, h), 1)
	has(t, "a is gray", m, []int64{2}, []int64{1})
	h, m = barred(t, h, m, opUnset("a", "x"))
	has(t, "and stays so", m, []int64{2}, []int64{1})
	sweeps(t, "it is come to by nobody", h, m, 3)
}

// Every op that is refused, by whatever code, leaves the marks as they are.
func TestRefusedWhileMarked(t *testing.T) {
	h := storyHeap(t)
	full := fullHeap()
	many := did(t, h, opListen("a", listeners(1)[0]), opListen("a", listeners(1)[0]), opListen("a", listeners(1)[0]), opListen("a", listeners(1)[0]))
	for _, c := range []struct {
		h    impl.Heap
		o    impl.Op
		code int64
	}{
		{h, impl.Op{}, impl.HpForm},
		{h, opObject("A"), impl.HpForm},
		{h, opSet("a", "x", ""), impl.HpForm},
		{h, opDrop("z"), impl.HpNone},
		{h, opSet("a", "x", "z"), impl.HpNone},
		{h, opUnset("a", "z"), impl.HpNone},
		{h, opGet("a", "z", "b"), impl.HpNone},
		{h, opDetach("e"), impl.HpNone},
		{h, opAppend("a", "o"), impl.HpKind},
		{h, opAppend("a", "d"), impl.HpLoop},
		{h, opAppend("c", "a"), impl.HpLoop},
		{h, opBefore("c", "a"), impl.HpLoop},
		{many, opListen("a", listeners(1)[0]), impl.HpFull},
		{full, opObject("globaa"), impl.HpFull},
		{full, opElement("globaa", "p"), impl.HpFull},
	} {
		for n := range 34 {
			m := markedIn(c.h, begun(t, c.h), n)
			after, got, code := asksBarred(t, c.h, m, c.o)
			if code != c.code || !sameHeap(after, c.h) || !sameMarker(got, m) {
				t.Fatalf("%+v: %d, want %d: %+v, was %+v", c.o, code, c.code, got, m)
			}
		}
	}
}

// A sweep waits until nothing is Gray.
func TestSweptWhileGray(t *testing.T) {
	h := did(t, storyHeap(t), opDrop("e"), opDrop("f"))
	m := begun(t, h)
	steps := 0
	for ; len(m.Gray) > 0; steps++ {
		if left, gone, ok := impl.Swept(h, m); ok || len(gone) > 0 || !sameHeap(left, impl.Heap{}) {
			t.Fatal(m, left, gone, ok)
		}
		m = marked(t, h, m, 1)
	}
	if steps != len(impl.Reached(h)) {
		t.Error("steps", steps)
	}
	sweeps(t, "then", h, m, 9, 10, 11, 12)
}

// Promise 12, with no ops: in one go and step by step, what is swept is what is
// collected.
func asksSweep(t *testing.T, h impl.Heap) {
	t.Helper()
	want, wants, _ := impl.Collected(h)
	once, ok := impl.Marked(h, begun(t, h), 100)
	bits := begun(t, h)
	for steps := int64(1); len(bits.Gray) > 0; steps++ {
		bits, _ = impl.Marked(h, bits, steps)
	}
	left, gone, is := impl.Swept(h, once)
	if !ok || !is || !sameMarker(once, bits) || !slices.Equal(once.Black, impl.Reached(h)) {
		t.Fatalf("%+v: marked %+v, by bits %+v", h, once, bits)
	}
	if !slices.Equal(gone, wants) || !sameHeap(left, want) {
		t.Fatalf("%+v: swept %v, but collected %v", h, gone, wants)
	}
}

func TestSweptIsCollected(t *testing.T) {
	for _, h := range []impl.Heap{impl.HeapNew(), smallHeap(), fullHeap(), storyHeap(t)} {
		asksSweep(t, h)
	}
	at := 0
	fewHeaps(func(h impl.Heap) {
		if at++; at%7 == 0 {
			asksSweep(t, h)
		}
	})
	gone := map[int]int{}
	wandered(12, 60, 60, func(h impl.Heap) {
		asksSweep(t, h)
		gone[len(unreachedIn(h))]++
	})
	if len(gone) < 10 {
		t.Error("too much alike", gone)
	}
}

// Every colouring of heaps of few things.
func TestAllMarksOfFewThings(t *testing.T) {
	at, right, wrong := 0, 0, 0
	ops := allOps(strings.Split("abc", ""), []string{"a", "b"})
	fewHeaps(func(h impl.Heap) {
		if at++; at%409 != 0 {
			return
		}
		each([]int{0, 1, 2}, 6, func(colours []int) {
			var m impl.Marker
			for i, c := range colours {
				if c == 1 {
					m.Gray = append(m.Gray, int64(i+1))
				}
				if c == 2 {
					m.Black = append(m.Black, int64(i+1))
				}
			}
			if impl.MarkerOk(h, m) != isMarker(h, m) {
				t.Fatalf("%+v: %+v: %v", h, m, impl.MarkerOk(h, m))
			}
			if !isMarker(h, m) {
				wrong++
				if wrong%31 == 0 {
					noMarker(t, "one of few", h, m)
				}
				return
			}
			right++
			asksMarker(t, h, m)
			for i := range 3 {
				asksBarred(t, h, m, ops[(right*3+i)%len(ops)])
			}
		})
	})
	if right < 3000 || wrong < 30000 {
		t.Error("too much alike", right, wrong)
	}
}

// Every op between any two steps, in heaps that have all kinds of things.
func TestEveryOpBetweenSteps(t *testing.T) {
	ops := allOps(strings.Split("abcdefoz", ""), []string{"x", "y"})
	bare := did(t, storyHeap(t), opDrop("e"), opDrop("f"), opDrop("o"))
	for _, h := range []impl.Heap{storyHeap(t), bare} {
		for n := range 14 {
			m := markedIn(h, begun(t, h), n)
			for i, o := range ops {
				if (i+n)%3 != 0 {
					continue
				}
				after, got, _ := asksBarred(t, h, m, o)
				end := markedIn(after, got, 100)
				neverReached(t, after, notBlack(after, end))
			}
		}
	}
}

// Promise 12: steps and ops in any mixture, then a sweep, again and again.
func TestSweptIsNeverReached(t *testing.T) {
	r := rand.New(rand.NewSource(120))
	ops := wanderOps()
	swept, late, codes := 0, 0, map[int64]int{}
	for range 120 {
		h := impl.HeapNew()
		for range 4 {
			m := begun(t, h)
			for range r.Intn(25) {
				if r.Intn(3) == 0 {
					m = marked(t, h, m, int64(r.Intn(3)))
					continue
				}
				after, got, code := asksBarred(t, h, m, ops[r.Intn(len(ops))])
				h, m = after, got
				codes[code]++
			}
			m = marked(t, h, m, 100)
			asksMarker(t, h, m)
			left, gone, ok := impl.Swept(h, m)
			if !ok || !isRight(left) {
				t.Fatalf("%+v: %+v", h, m)
			}
			neverReached(t, h, gone)
			seesTheSame(t, h, left)
			swept += len(gone)
			late += len(unreachedIn(left))
			h = left
		}
	}
	if swept < 300 || late < 300 || codes[0] < 1000 || codes[3] < 100 || codes[5] < 100 || codes[6] < 30 {
		t.Error("too much alike", swept, late, codes)
	}
}

// Nobody sees that it was swept: of two heaps one never is. Where it has no room
// for an op the ways part.
func TestNobodySeesThatItWasSwept(t *testing.T) {
	r := rand.New(rand.NewSource(121))
	ops := wanderOps()
	swept, full := 0, 0
	for range 100 {
		h := impl.HeapNew()
		other := h
		m := begun(t, other)
		for range 90 {
			o := ops[r.Intn(len(ops))]
			after, code := impl.Ran(h, o)
			if code == impl.HpFull {
				full++
				break
			}
			next, got, is := impl.Barred(other, m, o)
			if is != code {
				t.Fatalf("%+v\n%+v: %v: %d %d", h, other, o, code, is)
			}
			seesTheSame(t, after, next)
			h, other = after, next
			m, _ = impl.Marked(other, got, int64(r.Intn(4)))
			if left, gone, ok := impl.Swept(other, m); ok {
				other, swept = left, swept+len(gone)
				m = begun(t, other)
			}
		}
	}
	if swept < 1000 || full < 20 || full > 90 {
		t.Error("too much alike", swept, full)
	}
}

func TestSweptMakesRoom(t *testing.T) {
	h := impl.HeapNew()
	for len(h.Nodes) < impl.MaxNodes {
		h = did(t, h, opElement("a", "p"))
	}
	m := begun(t, h)
	if _, got, code := impl.Barred(h, m, opElement("a", "p")); code != impl.HpFull || !sameMarker(got, m) {
		t.Fatal(code, got)
	}
	left, gone, ok := impl.Swept(h, marked(t, h, m, 100))
	if !ok || len(gone) != 28 {
		t.Fatal(gone, ok)
	}
	after, got := barred(t, left, begun(t, left), opElement("a", "p"))
	if after.Next != h.Next+2 || !slices.Equal(got.Gray, []int64{1, global(left, "a"), h.Next + 1}) {
		t.Error(after, got)
	}
}

func sparedMarker(m impl.Marker) impl.Marker {
	return marks(withRoom(m.Gray, 77), withRoom(m.Black, 77))
}

func shownMarker(m impl.Marker) string {
	return fmt.Sprint(len(m.Gray), len(m.Black), m.Gray[:cap(m.Gray)], m.Black[:cap(m.Black)])
}

// markAnswers are those of all functions of marking.
func markAnswers(h impl.Heap, m impl.Marker, o impl.Op) []any {
	first, ok := impl.MarkBegun(h)
	same, is := impl.Marked(h, m, 0)
	some, was := impl.Marked(h, m, 3)
	after, got, code := impl.Barred(h, m, o)
	left, gone, did := impl.Swept(h, m)
	return []any{impl.MarkerOk(h, m), first, ok, same, is, some, was, after, got, code, left, gone, did}
}

func TestMarkingIsNewMemory(t *testing.T) {
	bare := did(t, storyHeap(t), opDrop("e"), opDrop("f"))
	wrong := smallHeap()
	wrong.Doc = 9
	wrong.Nodes[4].Parent = 1
	for _, given := range []impl.Heap{impl.HeapNew(), smallHeap(), fullHeap(), bare, wrong} {
		h := sparedHeap(given)
		was := shown(h)
		all := []impl.Marker{{}, marks([]int64{1}, []int64{1}), marks(everyId(given), nil), marks(nil, everyId(given))}
		if isRight(given) {
			for _, n := range []int{0, 1, 3, 100} {
				all = append(all, markedIn(given, begun(t, given), n))
			}
		}
		for _, one := range all {
			m := sparedMarker(one)
			had := shownMarker(m)
			for _, o := range []impl.Op{opElement("a", "p"), opObject("new"), opDrop("d"), opAppend("d", "a"), opDetach("c"), opDrop("zz"), {}} {
				answers, again := markAnswers(h, m, o), markAnswers(h, m, o)
				if !reflect.DeepEqual(answers, again) {
					t.Fatal("not the same answers", answers, again)
				}
				sharesNothing(t, append(answers, again...), []any{h, m})
			}
			if shownMarker(m) != had {
				t.Fatal("written into", m)
			}
		}
		if shown(h) != was {
			t.Fatal("written into", h)
		}
	}
}
