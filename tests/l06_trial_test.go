package tests

import (
	"math/rand"
	"reflect"
	"slices"
	"testing"

	"loop.example/g00376/impl"
)

// freedIn tells a trial anew, without any counts: of all that is below these
// those go back that are held by one that is not on trial (any more), until
// nobody holds one of the rest but they themselves.
func freedIn(h impl.Heap, ids []int64) []int64 {
	held := heldIn(h)
	left := closed(held, ids)
	fromElsewhere := func(id int64) bool {
		for from, l := range held {
			if slices.Contains(l, id) && !slices.Contains(left, from) {
				return true
			}
		}
		return slices.Contains(heldOutside(h), id)
	}
	for at := 0; at < len(left); at++ {
		if fromElsewhere(left[at]) {
			left = slices.Delete(left, at, at+1)
			at = -1
		}
	}
	return left
}

// asksTrial holds all that is told of a trial against the telling above.
func asksTrial(t *testing.T, h impl.Heap, ids []int64) []int64 {
	t.Helper()
	if got, want := impl.Below(h, ids), closed(heldIn(h), ids); !slices.Equal(got, want) {
		t.Fatalf("%+v: below %v: %v, want %v", h, ids, got, want)
	}
	want := freedIn(h, ids)
	got, ok := impl.Trial(h, ids)
	if !ok || !slices.Equal(got, want) {
		t.Fatalf("%+v: on trial %v: %v %v, want %v", h, ids, got, ok, want)
	}
	left, ok := impl.Freed(h, ids)
	if !ok || !sameHeap(left, leftOf(h, want)) || !isRight(left) {
		t.Fatalf("%+v: freed of %v: %v %+v", h, ids, ok, left)
	}
	return got
}

// asksFreed is for trials of which one knows the end by hand.
func asksFreed(t *testing.T, what string, h impl.Heap, ids []int64, want ...int64) {
	t.Helper()
	if !isRight(h) {
		t.Fatal(what, "is not right", h)
	}
	if got := asksTrial(t, h, ids); !slices.Equal(got, want) {
		t.Errorf("%s: on trial %v: %v, want %v", what, ids, got, want)
	}
}

// Promise 6, of all there is on trial.
func asksAllOnTrial(t *testing.T, h impl.Heap) {
	t.Helper()
	all := everyId(h)
	want, gone, _ := impl.Collected(h)
	got, ok := impl.Trial(h, all)
	left, is := impl.Freed(h, all)
	if !ok || !is || !slices.Equal(got, gone) || !sameHeap(left, want) || !slices.Equal(impl.Below(h, all), all) {
		t.Fatalf("%+v: all on trial %v %v, but collected %v", h, got, ok, gone)
	}
}

func neverReached(t *testing.T, h impl.Heap, freed []int64) {
	t.Helper()
	reached := impl.Reached(h)
	for _, id := range freed {
		if slices.Contains(reached, id) {
			t.Fatalf("%+v: %d is freed, and reached", h, id)
		}
	}
}

func TestTrialOfSmallHeap(t *testing.T) {
	h := smallHeap()
	asksFreed(t, "the one apart", h, []int64{9}, 9)
	asksFreed(t, "one that is reached", h, []int64{5})
	asksFreed(t, "beside one that is reached", h, []int64{5, 9}, 9)
	asksFreed(t, "Doc", h, []int64{1})
	for _, c := range []struct{ ids, below []int64 }{
		{[]int64{5}, []int64{5}},
		{[]int64{4}, []int64{4, 5}},
		{[]int64{9, 4}, []int64{4, 5, 9}},
		{[]int64{8}, []int64{1, 2, 3, 4, 5, 6, 7, 8}},
	} {
		if got := impl.Below(h, c.ids); !slices.Equal(got, c.below) {
			t.Error(c.ids, got)
		}
	}
	asksAllOnTrial(t, h)
}

// Things that nobody reaches are held all the same by such of them as are not on
// trial: a trial looks at counts, not at who holds.
func TestSomeOnTrial(t *testing.T) {
	h := impl.HeapNew()
	h.Next = 9
	h.Objs = []impl.Obj{obj(2, 3), obj(3, 4), obj(4, 3, 5), obj(5), obj(6, 6), obj(7, 8), obj(8)}
	h.Globals = []impl.Field{{Name: "a", Obj: 7}}
	asksFreed(t, "the holder", h, []int64{2}, 2, 3, 4, 5)
	asksFreed(t, "what it holds", h, []int64{3})
	asksFreed(t, "what that holds", h, []int64{5})
	asksFreed(t, "both", h, []int64{3, 2}, 2, 3, 4, 5)
	asksFreed(t, "the last and the holder", h, []int64{5, 2}, 2, 3, 4, 5)
	asksFreed(t, "its own holder", h, []int64{6}, 6)
	asksFreed(t, "its own holder beside one that is not freed", h, []int64{4, 6}, 6)
	asksFreed(t, "beside one that is reached", h, []int64{7, 2}, 2, 3, 4, 5)
	asksFreed(t, "one below a name's", h, []int64{8})
	asksFreed(t, "all", h, []int64{1, 2, 3, 4, 5, 6, 7, 8}, 2, 3, 4, 5, 6)
	h.Objs[0].Fields = append(h.Objs[0].Fields, impl.Field{Name: "b", Obj: 8})
	asksFreed(t, "what a name's holds, too, stays", h, []int64{2}, 2, 3, 4, 5)
	h.Objs[1].Fields = append(h.Objs[1].Fields, impl.Field{Name: "b", Obj: 2})
	h.Objs[6].Fields = []impl.Field{{Name: "a", Obj: 5}}
	asksFreed(t, "what that holds stays, too", h, []int64{2}, 2, 3, 4)
	h.Objs[6].Fields = []impl.Field{{Name: "a", Obj: 4}}
	asksFreed(t, "and all below it", h, []int64{2})
}

func TestHeldTwiceOnTrial(t *testing.T) {
	h := impl.HeapNew()
	h.Next = 6
	h.Objs = []impl.Obj{obj(2, 3, 3, 3), obj(3, 2, 2), obj(4, 4, 4, 5, 5), obj(5)}
	asksFreed(t, "twice from either", h, []int64{3}, 2, 3)
	asksFreed(t, "twice by itself", h, []int64{4}, 4, 5)
	asksFreed(t, "twice by one that is not on trial", h, []int64{5})
	h.Globals = []impl.Field{{Name: "a", Obj: 3}, {Name: "b", Obj: 3}}
	asksFreed(t, "twice by names", h, []int64{2, 4}, 4, 5)
	asksFreed(t, "once by a name", did(t, h, opDrop("b")), []int64{2})
	asksFreed(t, "by none", did(t, h, opDrop("b"), opDrop("a")), []int64{2}, 2, 3)
}

func TestKidsOnTrial(t *testing.T) {
	h := impl.Heap{Next: 10, Doc: 1,
		Nodes: []impl.Node{
			{Id: 1, Tag: "doc"},
			{Id: 3, Tag: "ul", Kids: []int64{5, 8}},
			{Id: 5, Tag: "li", Parent: 3, Wrapper: 2},
			{Id: 8, Tag: "li", Parent: 3},
		},
		Objs:    []impl.Obj{{Id: 2, Node: 5}, {Id: 9}},
		Globals: []impl.Field{{Name: "a", Obj: 2}},
	}
	for _, id := range []int64{2, 3, 5, 8} {
		asksFreed(t, "a parent and its kids, held by one kid's name", h, []int64{id})
	}
	asksFreed(t, "beside one that is freed", h, []int64{9, 3}, 9)
	h = did(t, h, opDrop("a"))
	for _, id := range []int64{2, 3, 5, 8} {
		asksFreed(t, "a parent and its kids", h, []int64{id}, 2, 3, 5, 8)
	}
	asksAllOnTrial(t, h)
}

func TestCirclesOnTrial(t *testing.T) {
	// node 9 (ul), its kid 11 (em), their wrappers 10 and 12, in a ring with o, 13
	h := did(t, storyHeap(t), opUnset("a", "x"), opUnset("o", "y"), opSet("f", "x", "o"), opSet("o", "x", "e"))
	ring := []int64{9, 10, 11, 12, 13}
	names := []string{"e", "f", "o"}
	for left := range 8 { // every choice of the names that still hold it
		some := h
		for i, name := range names {
			if left>>i&1 == 0 {
				some = did(t, some, opDrop(name))
			}
		}
		for _, id := range ring {
			if left == 0 {
				asksFreed(t, "held by no name", some, []int64{id}, ring...)
			} else {
				asksFreed(t, "held by some name", some, []int64{id})
			}
		}
		asksFreed(t, "another tree", some, []int64{3, 7})
		asksAllOnTrial(t, some)
	}
	hung := did(t, h, opDrop("f"), opDrop("o"), opAppend("d", "e"), opDrop("e"))
	asksFreed(t, "held by Doc", hung, ring)
	hung = did(t, hung, opDetach("a"), opDetach("b"), opFirst("d", "k"), opDetach("k"))
	asksFreed(t, "held by Doc no more, but by a name", hung, ring)
	asksFreed(t, "nor by that", did(t, hung, opDrop("k")), ring, ring...)
}

func TestFewIdsOnTrial(t *testing.T) {
	h := did(t, storyHeap(t), opDrop("e"), opDrop("f"))
	asksFreed(t, "none", h, nil)
	asksFreed(t, "none, but a list", h, []int64{})
	asksFreed(t, "none, of Doc alone", impl.HeapNew(), nil)
	asksFreed(t, "Doc alone", impl.HeapNew(), []int64{1})
	asksFreed(t, "named twice", h, []int64{11, 11}, 9, 10, 11, 12)
	asksFreed(t, "named twice, apart", h, []int64{11, 3, 11, 3}, 9, 10, 11, 12)
	asksFreed(t, "falling", h, []int64{12, 11, 10, 9}, 9, 10, 11, 12)
	if l := impl.Below(h, []int64{12, 12, 9}); !slices.Equal(l, []int64{9, 10, 11, 12}) {
		t.Error(l)
	}
	left, ok := impl.Freed(h, nil)
	if !ok || !sameHeap(left, h) {
		t.Error(left, ok)
	}
}

// noTrial asks for the answers that are fixed for what cannot be on trial.
func noTrial(t *testing.T, what string, h impl.Heap, ids []int64) {
	t.Helper()
	if l := impl.Below(h, ids); len(l) != 0 {
		t.Error(what, ids, "below", l)
	}
	if l, ok := impl.Trial(h, ids); ok || len(l) != 0 {
		t.Error(what, ids, "on trial", l, ok)
	}
	if left, ok := impl.Freed(h, ids); ok || !sameHeap(left, impl.Heap{}) {
		t.Error(what, ids, "freed", left, ok)
	}
}

func TestHundredIds(t *testing.T) {
	h := did(t, storyHeap(t), opDrop("e"), opDrop("f"))
	for _, ids := range [][]int64{{9}, {12, 3}, {1}, everyId(h)} {
		var many []int64
		for i := range 100 {
			many = append(many, ids[i%len(ids)])
		}
		asksFreed(t, "99", h, many[:99], freedIn(h, ids)...)
		asksFreed(t, "100", h, many, freedIn(h, ids)...)
		noTrial(t, "101", h, append(many, ids[0]))
		noTrial(t, "very many", h, slices.Repeat(many, 1000))
	}
	noTrial(t, "101 of nothing", h, make([]int64, 101))
	noTrial(t, "100, the last of nothing", h, append(slices.Repeat([]int64{9}, 99), 77))
}

func TestIdsOfNothingOnTrial(t *testing.T) {
	for _, h := range []impl.Heap{impl.HeapNew(), smallHeap(), fullHeap(), did(t, storyHeap(t), opDrop("e"), opDrop("f"))} {
		ids := everyId(h)
		for _, none := range append(slices.Clone(idsOfNothing), h.Next) {
			noTrial(t, "alone", h, []int64{none})
			noTrial(t, "first", h, append([]int64{none}, ids...))
			noTrial(t, "last", h, append(slices.Clone(ids), none))
		}
	}
	left, _, _ := impl.Collected(smallHeap())
	noTrial(t, "collected", left, []int64{9})
}

func TestTrialOfHeapsThatAreNotRight(t *testing.T) {
	defer endsSoon("trial of heaps that are not right")()
	heapsNotRight(func(what string, h impl.Heap) {
		for _, ids := range [][]int64{nil, {1}, {9}, {5, 6}, {77}, make([]int64, 101)} {
			noTrial(t, what, h, ids)
		}
	})
}

func TestTrialOfFullHeap(t *testing.T) {
	h := fullHeap()
	asksAllOnTrial(t, h)
	asksFreed(t, "all is held", h, []int64{31, 999999999})
	h.Globals, h.Nodes[0].Kids = nil, h.Nodes[0].Kids[:14]
	h.Nodes[15].Parent = 0
	asksFreed(t, "the last ones", h, []int64{31}, 31, 999999999)
	asksAllOnTrial(t, h)
}

// Every choice of Ids in many heaps of few things.
func TestTrialOfFewThings(t *testing.T) {
	at, freed, kept := 0, 0, 0
	fewHeaps(func(h impl.Heap) {
		at++
		if at%41 != 0 {
			return
		}
		all := everyId(h)
		for set := range 1 << len(all) {
			var ids []int64
			for i, id := range all {
				if set>>i&1 == 1 {
					ids = append(ids, id)
				}
			}
			got := asksTrial(t, h, ids)
			neverReached(t, h, got)
			freed += len(got)
			kept += len(impl.Below(h, ids)) - len(got)
		}
		asksAllOnTrial(t, h)
	})
	if freed < 10000 || kept < 10000 {
		t.Error("too much alike", freed, kept)
	}
}

func TestTrialOfWanderedHeaps(t *testing.T) {
	r := rand.New(rand.NewSource(6))
	freed, some := 0, 0
	wandered(5, 100, 60, func(h impl.Heap) {
		all := everyId(h)
		for range 3 {
			ids := make([]int64, r.Intn(4))
			for i := range ids {
				ids[i] = all[r.Intn(len(all))]
			}
			got := asksTrial(t, h, ids)
			neverReached(t, h, got)
			freed += len(got)
			if len(got) > 0 && len(got) < len(unreachedIn(h)) {
				some++
			}
		}
		asksAllOnTrial(t, h)
	})
	if freed < 1000 || some < 300 {
		t.Error("too much alike", freed, some)
	}
}

// What is freed is seen by nobody, either.
func TestNobodySeesThatItWasFreed(t *testing.T) {
	r := rand.New(rand.NewSource(8))
	ops := wanderOps()
	freed := 0
	for range 60 {
		h := impl.HeapNew()
		other := h
		for range 60 {
			o := ops[r.Intn(len(ops))]
			after, code := impl.Ran(h, o)
			if code == impl.HpFull {
				break
			}
			next, code2 := impl.Ran(other, o)
			if code != code2 {
				t.Fatalf("%+v\n%+v: %v: %d %d", h, other, o, code, code2)
			}
			seesTheSame(t, after, next)
			all := everyId(next)
			h = after
			other, _ = impl.Freed(next, []int64{all[r.Intn(len(all))], all[len(all)-1]})
			freed += len(all) - len(everyId(other))
		}
	}
	if freed < 100 {
		t.Error("too few are freed", freed)
	}
}

func TestTrialIsNewMemory(t *testing.T) {
	bare := did(t, storyHeap(t), opDrop("e"), opDrop("f"))
	for _, given := range []impl.Heap{impl.HeapNew(), smallHeap(), fullHeap(), bare} {
		h := sparedHeap(given)
		was := shown(h)
		all := everyId(h)
		for _, list := range [][]int64{nil, all[:1], all[len(all)-1:], all, append(slices.Clone(all), 77)} {
			ids := withRoom(list, 7)
			slices.Reverse(ids)
			had := slices.Clone(ids[:cap(ids)])
			gone, _ := impl.Trial(h, ids)
			left, _ := impl.Freed(h, ids)
			went, _ := impl.Trial(h, ids)
			more, _ := impl.Freed(h, ids)
			answers, again := []any{impl.Below(h, ids), gone, left}, []any{impl.Below(h, ids), went, more}
			if !reflect.DeepEqual(answers, again) {
				t.Fatal("not the same answers", answers, again)
			}
			sharesNothing(t, append(answers, again...), []any{h, ids})
			if !slices.Equal(ids[:cap(ids)], had) {
				t.Fatal("written into the list of ids", ids)
			}
		}
		if shown(h) != was {
			t.Fatal("written into", h)
		}
	}
}
