package tests

import (
	"fmt"
	"math"
	"math/rand"
	"reflect"
	"runtime"
	"slices"
	"strings"
	"testing"
	"time"

	"loop.example/g00376/impl"
)

// grownIn tells Grown anew, by the tags of the tree's text: one that opens is a
// new node below the one that is still open.
func grownIn(h impl.Heap, name, text string) (impl.Heap, int64) {
	if !isRight(h) {
		return impl.Heap{}, impl.HpWrong
	}
	if !isName(name) || !isTreeText(text) {
		return h, impl.HpForm
	}
	m := modelOf(h)
	var root, at *modelNode
	for text != "" {
		tag := anyTag.FindStringSubmatch(text)
		text = text[len(tag[0]):]
		if tag[1] == "/" {
			at = at.parent
			continue
		}
		n := &modelNode{id: m.next, tag: tag[2], parent: at}
		m.nodes[m.next] = n
		m.next++
		if at == nil {
			root = n
		} else {
			at.kids = append(at.kids, n)
		}
		at = n
	}
	m.globals[name] = m.wrapping(root)
	if !m.hasRoom() {
		return h, impl.HpFull
	}
	return m.heap(), impl.HpDone
}

func asksGrown(t *testing.T, h impl.Heap, name string, x impl.Tree) (impl.Heap, int64) {
	t.Helper()
	want, wants := grownIn(h, name, impl.TreeText(x))
	after, code := impl.Grown(h, name, x)
	if code != wants || !sameHeap(after, want) {
		t.Fatalf("%+v: %s %v: %d %+v, want %d %+v", h, name, x, code, after, wants, want)
	}
	if code != impl.HpDone {
		return after, code
	}
	root, _ := impl.NodeOf(after, name)
	below := impl.InOrder(after, root)
	got, _ := impl.TreeOf(after, root)
	if !sameTree(got, x) || root != h.Next || below[len(below)-1] != h.Next+int64(len(below))-1 || !slices.IsSorted(below) || len(impl.Above(after, root)) != 1 {
		t.Fatalf("%+v: %s %v: grown is %+v", h, name, x, after)
	}
	return after, code
}

func sameWorld(a, b impl.World) bool {
	return slices.EqualFunc(a.Heaps, b.Heaps, sameHeap) && slices.Equal(a.Posts, b.Posts)
}

// isWorld is the document's rule, clause by clause.
func isWorld(w impl.World) bool {
	n := int64(len(w.Heaps))
	if n != 2 && n != 3 || len(w.Posts) > 10 {
		return false
	}
	for _, h := range w.Heaps {
		if !isRight(h) {
			return false
		}
	}
	for _, p := range w.Posts {
		if p.From < 0 || p.From >= n || p.To < 0 || p.To >= n || p.From == p.To || !isTreeText(p.Text) {
			return false
		}
	}
	return true
}

// The model of a world has a box for each pair of origins, and numbers what is
// sent.
type letter struct {
	number int
	text   string
}

type modelWorld struct {
	heaps []impl.Heap
	boxes map[[2]int64][]letter
	sent  int
}

func modelWorldOf(w impl.World) *modelWorld {
	m := &modelWorld{heaps: slices.Clone(w.Heaps), boxes: map[[2]int64][]letter{}}
	for _, p := range w.Posts {
		m.post(p.From, p.To, p.Text)
	}
	return m
}

func (m *modelWorld) post(from, to int64, text string) {
	pair := [2]int64{from, to}
	m.boxes[pair] = append(m.boxes[pair], letter{m.sent, text})
	m.sent++
}

func (m *modelWorld) world() impl.World {
	w := impl.World{Heaps: m.heaps}
	for number := range m.sent {
		for pair, box := range m.boxes {
			for _, x := range box {
				if x.number == number {
					w.Posts = append(w.Posts, impl.Post{From: pair[0], To: pair[1], Text: x.text})
				}
			}
		}
	}
	return w
}

func (m *modelWorld) is(who int64) bool { return who >= 0 && who < int64(len(m.heaps)) }

// A deed is one call on a world.
type deed struct {
	what string // act, send, take or close
	who  int64
	to   int64
	name string
	op   impl.Op
}

func act(who int64, o impl.Op) deed        { return deed{what: "act", who: who, op: o} }
func send(who, to int64, name string) deed { return deed{what: "send", who: who, to: to, name: name} }
func take(who int64, name string) deed     { return deed{what: "take", who: who, name: name} }
func closes(who int64) deed                { return deed{what: "close", who: who} }
func (d deed) on(w impl.World) (impl.World, int64) {
	switch d.what {
	case "act":
		return impl.Acted(w, d.who, d.op)
	case "send":
		return impl.Sent(w, d.who, d.to, d.name)
	case "take":
		return impl.Taken(w, d.who, d.name)
	}
	return impl.Closed(w, d.who)
}

func (m *modelWorld) do(d deed) int64 {
	if !m.is(d.who) || d.what == "send" && (!m.is(d.to) || d.to == d.who) || (d.what == "send" || d.what == "take") && !isName(d.name) {
		return impl.HpForm
	}
	switch d.what {
	case "act":
		after, code := modelRan(m.heaps[d.who], d.op)
		if code == impl.HpDone {
			m.heaps[d.who] = after
		}
		return code
	case "send":
		return m.send(d)
	case "take":
		return m.take(d)
	}
	m.heaps[d.who] = impl.Heap{Next: 2, Doc: 1, Nodes: []impl.Node{{Id: 1, Tag: "doc"}}}
	for pair := range m.boxes {
		if pair[0] == d.who || pair[1] == d.who {
			delete(m.boxes, pair)
		}
	}
	return impl.HpDone
}

func (m *modelWorld) send(d deed) int64 {
	its := modelOf(m.heaps[d.who]).globals[d.name]
	if its == nil {
		return impl.HpNone
	}
	if its.node == nil {
		return impl.HpKind
	}
	under := 0
	for _, box := range m.boxes {
		under += len(box)
	}
	if under == 10 {
		return impl.HpFull
	}
	m.post(d.who, d.to, textBelow(its.node))
	return impl.HpDone
}

func textBelow(n *modelNode) string {
	s := ""
	for _, kid := range n.kids {
		s += textBelow(kid)
	}
	return fmt.Sprintf("<%s>%s</%s>", n.tag, s, n.tag)
}

func (m *modelWorld) take(d deed) int64 {
	first, from := letter{number: m.sent}, [2]int64{}
	for pair, box := range m.boxes {
		if pair[1] == d.who && len(box) > 0 && box[0].number < first.number {
			first, from = box[0], pair
		}
	}
	if first.number == m.sent {
		return impl.HpNone
	}
	after, code := grownIn(m.heaps[d.who], d.name, first.text)
	if code == impl.HpDone {
		m.heaps[d.who] = after
		m.boxes[from] = m.boxes[from][1:]
	}
	return code
}

// asksDeed holds a call against the model, and asks that no other origin's heap
// is changed.
func asksDeed(t *testing.T, w impl.World, d deed) (impl.World, int64) {
	t.Helper()
	m := modelWorldOf(w)
	wants := m.do(d)
	after, code := d.on(w)
	if want := m.world(); code != wants || !sameWorld(after, want) || !isWorld(after) {
		t.Fatalf("%+v: %+v: %d %+v, want %d %+v", w, d, code, after, wants, want)
	}
	if code != impl.HpDone && !sameWorld(after, w) {
		t.Fatalf("%+v: %+v is refused, and leaves %+v", w, d, after)
	}
	for i := range w.Heaps {
		if int64(i) != d.who && !sameHeap(after.Heaps[i], w.Heaps[i]) {
			t.Fatalf("%+v: %+v changes origin %d: %+v", w, d, i, after)
		}
	}
	return after, code
}

// doing asks for calls that all are done.
func doing(t *testing.T, w impl.World, deeds ...deed) impl.World {
	t.Helper()
	for _, d := range deeds {
		after, code := asksDeed(t, w, d)
		if code != impl.HpDone {
			t.Fatalf("%+v is refused: %d", d, code)
		}
		w = after
	}
	return w
}

// denies asks for the code, and for the world as it was.
func denies(t *testing.T, what string, w impl.World, d deed, want int64) {
	t.Helper()
	if _, code := asksDeed(t, w, d); code != want {
		t.Errorf("%s: %+v: code %d, want %d", what, d, code, want)
	}
}

// noWorld asks that nothing is told of a world that is not right, whatever else
// is asked for.
func noWorld(t *testing.T, what string, w impl.World) {
	t.Helper()
	if impl.WorldOk(w) {
		t.Error(what, "is accepted")
	}
	if isWorld(w) {
		t.Error(what, "breaks nothing")
	}
	for _, d := range []deed{
		act(0, opObject("a")), act(0, impl.Op{}), act(-1, opObject("a")), act(2, impl.Op{}), act(math.MaxInt64, impl.Op{}),
		send(0, 1, "a"), send(0, 0, "a"), send(0, 1, ""), send(-1, 5, ""), send(0, 1, "zz"),
		take(0, "a"), take(1, "a"), take(-1, ""), take(9, "a"), closes(0), closes(1), closes(2), closes(-1), closes(math.MinInt64),
	} {
		if after, code := d.on(w); code != impl.HpWrong || !sameWorld(after, impl.World{}) {
			t.Errorf("%s: %+v: %d %+v", what, d, code, after)
		}
	}
}

func worldNew(t *testing.T, n int64) impl.World {
	t.Helper()
	w, ok := impl.WorldNew(n)
	if !ok {
		t.Fatal("no world of", n)
	}
	return w
}

// postsOf tells From, To and Text of each.
func postsOf(w impl.World) string {
	var l []string
	for _, p := range w.Posts {
		l = append(l, fmt.Sprintf("%d %d %s", p.From, p.To, p.Text))
	}
	return strings.Join(l, " ")
}

func TestConstantsOfWorlds(t *testing.T) {
	if impl.MaxOrigins != 3 || impl.MaxPosts != 10 {
		t.Error(impl.MaxOrigins, impl.MaxPosts)
	}
}

func TestGrownByHand(t *testing.T) {
	x := readTree(t, "<ul><li><b></b></li><p></p><li></li></ul>")
	h, code := asksGrown(t, impl.HeapNew(), "g", x)
	want := impl.Heap{
		Next: 8, Doc: 1,
		Nodes: []impl.Node{
			{Id: 1, Tag: "doc"},
			{Id: 2, Tag: "ul", Kids: []int64{3, 5, 6}, Wrapper: 7},
			{Id: 3, Tag: "li", Parent: 2, Kids: []int64{4}},
			{Id: 4, Tag: "b", Parent: 3},
			{Id: 5, Tag: "p", Parent: 2},
			{Id: 6, Tag: "li", Parent: 2},
		},
		Objs:    []impl.Obj{{Id: 7, Node: 2}},
		Globals: []impl.Field{{Name: "g", Obj: 7}},
	}
	if code != impl.HpDone || !sameHeap(h, want) || docText(h) != "<doc></doc>" {
		t.Fatalf("%d %+v, want %+v", code, h, want)
	}
	// once more, under a name that holds an object already: that one stays
	more, code := asksGrown(t, h, "g", leaf("div"))
	if code != impl.HpDone || more.Next != 10 || global(more, "g") != 9 || len(more.Globals) != 1 || len(more.Objs) != 2 || more.Objs[0].Node != 2 {
		t.Error(code, more)
	}
	// what is grown can be put into the document
	more = did(t, h, opDoc("d"), opAppend("d", "g"))
	if docText(more) != "<doc>"+impl.TreeText(x)+"</doc>" {
		t.Error(docText(more))
	}
}

// All small trees, in heaps that have others.
func TestGrownIntoHeaps(t *testing.T) {
	codes := map[int64]int{}
	for _, h := range []impl.Heap{impl.HeapNew(), smallHeap(), storyHeap(t), fullHeap()} {
		for i, x := range someTrees() {
			name := []string{"a", "d", "zzzzzz", "globab"}[i%4]
			_, code := asksGrown(t, h, name, x)
			codes[code]++
		}
	}
	if codes[impl.HpDone] < 500 || codes[impl.HpFull] < 100 || len(codes) != 2 {
		t.Error("too much alike", codes)
	}
}

// What was there stays as it was, but for the name that is taken.
func TestGrownChangesNothingElse(t *testing.T) {
	x := node("ul", leaf("li"), node("li", leaf("b")))
	for _, h := range []impl.Heap{impl.HeapNew(), smallHeap(), storyHeap(t)} {
		for _, name := range []string{"a", "d", "e", "new"} {
			after, code := asksGrown(t, h, name, x)
			if code != impl.HpDone {
				t.Fatal(code)
			}
			after.Nodes, after.Objs, after.Next = after.Nodes[:len(h.Nodes)], after.Objs[:len(h.Objs)], h.Next
			others := func(f impl.Field) bool { return f.Name == name }
			was := h
			was.Globals = slices.DeleteFunc(slices.Clone(h.Globals), others)
			after.Globals = slices.DeleteFunc(after.Globals, others)
			if !sameHeap(after, was) {
				t.Errorf("%s: %+v, was %+v", name, after, h)
			}
		}
	}
}

// Just the room for a tree, its object and its name, and for one less of each.
func TestRoomForATree(t *testing.T) {
	for _, shape := range shapes {
		for size := 1; size <= 30; size++ {
			for nodes := 1; nodes <= 16; nodes++ {
				h := impl.HeapNew()
				for len(h.Nodes) < nodes {
					h.Nodes = append(h.Nodes, impl.Node{Id: h.Next, Tag: "a"})
					h.Next++
				}
				want := int64(impl.HpDone)
				if nodes+size > 16 {
					want = impl.HpFull
				}
				if _, code := asksGrown(t, h, "g", shape("b", size)); code != want {
					t.Error(size, nodes, code)
				}
			}
		}
	}
	for objs := range 17 {
		h := impl.HeapNew()
		for len(h.Objs) < objs {
			h.Objs = append(h.Objs, impl.Obj{Id: h.Next})
			h.Next++
		}
		if _, code := asksGrown(t, h, "g", leaf("a")); (code == impl.HpFull) != (objs == 16) {
			t.Error(objs, code)
		}
	}
	for names := range 9 {
		h := did(t, impl.HeapNew(), opObject("a"))
		h.Globals = fieldsTo(2, names)
		if _, code := asksGrown(t, h, "zz", leaf("a")); (code == impl.HpFull) != (names == 8) {
			t.Error(names, code)
		}
		// a name that is there needs no room
		if _, code := asksGrown(t, h, "a", leaf("a")); code != impl.HpDone {
			t.Error(names, code)
		}
	}
}

func TestTreesAtTheLastId(t *testing.T) {
	for size := 1; size <= 15; size++ {
		for less := range int64(20) {
			h := impl.HeapNew()
			h.Next = 1000000000 - less
			want := int64(impl.HpDone)
			if int64(size)+1 > less {
				want = impl.HpFull
			}
			if _, code := asksGrown(t, h, "g", comb("a", size)); code != want {
				t.Error(size, less, code)
			}
		}
	}
}

var namesThatAreNone = []string{"", "A", "abcdefg", "a b", "a1", " ", "a\x00", "é", "<a>", "ab.", "ABC"}

func TestGrownRefusals(t *testing.T) {
	defer endsSoon("trees that are not right")()
	bad := treesNotRight()
	for _, h := range []impl.Heap{impl.HeapNew(), smallHeap(), fullHeap()} {
		for what, x := range bad {
			for _, name := range []string{"a", "d", "", "A"} {
				if after, code := impl.Grown(h, name, x); code != impl.HpForm || !sameHeap(after, h) {
					t.Error(what, name, code, after)
				}
			}
		}
		for _, name := range namesThatAreNone {
			for _, x := range []impl.Tree{leaf("a"), chain("a", 16), star("a", 30)} {
				if after, code := impl.Grown(h, name, x); code != impl.HpForm || !sameHeap(after, h) {
					t.Error(name, code, after)
				}
			}
		}
	}
	heapsNotRight(func(what string, h impl.Heap) {
		for _, name := range []string{"a", "d", ""} {
			for _, x := range []impl.Tree{leaf("a"), chain("a", 30), {}, bad["self"], bad["wide"]} {
				if after, code := impl.Grown(h, name, x); code != impl.HpWrong || !sameHeap(after, impl.Heap{}) {
					t.Error(what, name, code, after)
				}
			}
		}
	})
}

func TestWorldNew(t *testing.T) {
	for _, n := range []int64{2, 3} {
		w, ok := impl.WorldNew(n)
		if !ok || int64(len(w.Heaps)) != n || len(w.Posts) != 0 || !impl.WorldOk(w) {
			t.Error(n, w, ok)
		}
		for _, h := range w.Heaps {
			if !sameHeap(h, impl.HeapNew()) {
				t.Error(n, h)
			}
		}
	}
	for _, n := range []int64{math.MinInt64, -2, -1, 0, 1, 4, 5, 1 << 32, 1<<32 + 2, math.MaxInt64} {
		if w, ok := impl.WorldNew(n); ok || !sameWorld(w, impl.World{}) {
			t.Error(n, w, ok)
		}
	}
}

func post(from, to int64, text string) impl.Post { return impl.Post{From: from, To: to, Text: text} }

// busyWorld has three origins that all have something, and posts of each of them.
func busyWorld(t *testing.T) impl.World {
	return impl.World{
		Heaps: []impl.Heap{smallHeap(), storyHeap(t), impl.HeapNew()},
		Posts: []impl.Post{
			post(0, 1, "<a></a>"), post(1, 0, "<b><b></b></b>"), post(2, 1, "<c></c>"), post(0, 2, "<d></d>"),
			post(0, 1, "<e></e>"), post(1, 2, "<f></f>"), post(0, 1, "<a></a>"),
		},
	}
}

func TestOriginsOfWorlds(t *testing.T) {
	for n := range 6 {
		w := impl.World{Heaps: slices.Repeat([]impl.Heap{smallHeap()}, n)}
		if n == 2 || n == 3 {
			if !impl.WorldOk(w) || !isWorld(w) {
				t.Error(n, "is refused")
			}
			continue
		}
		noWorld(t, fmt.Sprint(n, " origins"), w)
	}
	heapsNotRight(func(what string, h impl.Heap) {
		for _, n := range []int{2, 3} {
			for at := range n {
				w := impl.World{Heaps: slices.Repeat([]impl.Heap{smallHeap()}, n)}
				w.Heaps[at] = h
				noWorld(t, fmt.Sprint(what, " at ", at, " of ", n), w)
			}
		}
	})
	full := impl.World{Heaps: slices.Repeat([]impl.Heap{fullHeap()}, 3), Posts: slices.Repeat([]impl.Post{post(2, 0, impl.TreeText(star("abcdef", 30)))}, 10)}
	if !impl.WorldOk(full) || !isWorld(full) {
		t.Error("a full one is refused")
	}
}

func TestHowManyPosts(t *testing.T) {
	for n := range 13 {
		w := worldNew(t, 2)
		w.Posts = slices.Repeat([]impl.Post{post(1, 0, "<a></a>")}, n)
		if n > 10 {
			noWorld(t, fmt.Sprint(n, " posts"), w)
			continue
		}
		if !impl.WorldOk(w) || !isWorld(w) {
			t.Error(n, "posts are refused")
		}
		w = doing(t, w, act(0, opDoc("d")))
		if n == 10 {
			denies(t, "ten", w, send(0, 1, "d"), impl.HpFull)
			w = doing(t, w, take(0, "x"))
		}
		w = doing(t, w, send(0, 1, "d"))
		if last := w.Posts[len(w.Posts)-1]; last != post(0, 1, "<doc></doc>") {
			t.Error(last)
		}
	}
}

func TestPostsThatAreNotRight(t *testing.T) {
	wrong := map[string]impl.Post{
		"from itself": post(1, 1, "<a></a>"), "from 0 to 0": post(0, 0, "<a></a>"),
		"from below 0": post(-1, 0, "<a></a>"), "to below 0": post(0, -1, "<a></a>"), "far below": post(math.MinInt64, 1, "<a></a>"),
		"from far above": post(math.MaxInt64, 1, "<a></a>"), "to 2 to the 32": post(0, 1<<32+1, "<a></a>"),
		"nothing": {}, "no text": post(0, 1, ""), "no tree": post(0, 1, "a"), "two trees": post(0, 1, "<a></a><a></a>"),
		"a tree that does not end": post(0, 1, "<a>"), "a text": post(0, 1, "<a>x</a>"), "an attribute": post(0, 1, `<a b="c"></a>`),
		"a blank behind": post(0, 1, "<a></a> "), "a tag that is none": post(0, 1, "<A></A>"), "7 letters": post(0, 1, "<abcdefg></abcdefg>"),
		"31 nodes": post(0, 1, "<a>"+impl.TreeText(star("a", 30))+"</a>"), "tags that differ": post(0, 1, "<a></b>"),
		"long": post(0, 1, strings.Repeat("<a>", 1<<18)),
	}
	for _, n := range []int64{2, 3} {
		wrong["from as many as there are"] = post(n, 0, "<a></a>")
		wrong["to as many as there are"] = post(0, n, "<a></a>")
		for what, p := range wrong {
			for _, at := range []int{0, 4, 9} {
				w := worldNew(t, n)
				w.Posts = slices.Repeat([]impl.Post{post(0, n-1, "<b><c></c></b>")}, 10)
				w.Posts[at] = p
				noWorld(t, what, w)
			}
		}
	}
	two := busyWorld(t)
	two.Heaps = two.Heaps[:2]
	noWorld(t, "posts of an origin that is none there", two)
	if w := busyWorld(t); !impl.WorldOk(w) || !isWorld(w) {
		t.Error("the busy one is refused")
	}
}

// Every op at every origin: that one's heap and the code are as of Ran, all else
// is as it was.
func TestActed(t *testing.T) {
	w := busyWorld(t)
	codes := map[int64]int{}
	for _, o := range append(allOps(strings.Split("adez", ""), []string{"x"}), impl.Op{}, opObject("A"), opSet("a", "b", "")) {
		for who := range int64(3) {
			after, code := asksDeed(t, w, act(who, o))
			heap, want := impl.Ran(w.Heaps[who], o)
			if code != want || !sameHeap(after.Heaps[who], heap) || !slices.Equal(after.Posts, w.Posts) {
				t.Fatal(who, o, code, want)
			}
			codes[code]++
		}
	}
	for _, code := range []int64{impl.HpDone, impl.HpForm, impl.HpNone, impl.HpKind, impl.HpLoop} {
		if codes[code] == 0 {
			t.Error("too much alike", codes)
		}
	}
	w.Heaps[1] = fullHeap()
	denies(t, "a full heap", w, act(1, opObject("globaa")), impl.HpFull)
	doing(t, w, act(2, opObject("globaa")))
}

var whoIsNone = []int64{-1, -2, math.MinInt64, math.MaxInt64, 1 << 32, 1<<32 + 1, -1 << 32, 4, 10}

// An origin that is none, two that are the same, a name that is none.
func TestFormsOfDeeds(t *testing.T) {
	for _, n := range []int64{2, 3} {
		w := worldNew(t, n)
		for who := range n {
			w = doing(t, w, act(who, opDoc("d")), send(who, (who+1)%n, "d"))
		}
		for _, who := range append([]int64{n, n + 1}, whoIsNone...) {
			denies(t, "who", w, act(who, opObject("a")), impl.HpForm)
			denies(t, "who", w, act(who, impl.Op{}), impl.HpForm)
			denies(t, "from", w, send(who, 0, "d"), impl.HpForm)
			denies(t, "to", w, send(0, who, "d"), impl.HpForm)
			denies(t, "both", w, send(who, who, "d"), impl.HpForm)
			denies(t, "who", w, take(who, "a"), impl.HpForm)
			denies(t, "who", w, closes(who), impl.HpForm)
		}
		for who := range n {
			denies(t, "the same", w, send(who, who, "d"), impl.HpForm)
			denies(t, "the same, no object", w, send(who, who, "z"), impl.HpForm)
			for _, name := range namesThatAreNone {
				denies(t, "a name", w, send(who, (who+1)%n, name), impl.HpForm)
				denies(t, "a name", w, take(who, name), impl.HpForm)
			}
			doing(t, w, send(who, (who+1)%n, "d"), take(who, "a"), closes(who))
		}
	}
	// HpForm is told ahead of all that is asked of the heaps and the posts
	w := worldNew(t, 2)
	denies(t, "nothing is there", w, take(0, ""), impl.HpForm)
	denies(t, "nothing is there", w, take(0, "a"), impl.HpNone)
	w.Posts = slices.Repeat([]impl.Post{post(1, 0, "<a></a>")}, 10)
	denies(t, "no room", w, send(0, 0, "z"), impl.HpForm)
}

func TestSentRefusals(t *testing.T) {
	w := doing(t, worldNew(t, 3), act(0, opObject("o")), act(0, opElement("a", "p")), act(1, opElement("b", "p")))
	for _, full := range []bool{false, true} {
		if full {
			w.Posts = slices.Repeat([]impl.Post{post(1, 2, "<a></a>")}, 10)
		}
		denies(t, "no object", w, send(0, 1, "z"), impl.HpNone)
		denies(t, "an object of the other", w, send(0, 1, "b"), impl.HpNone)
		denies(t, "an object of a third", w, send(2, 0, "a"), impl.HpNone)
		denies(t, "no node", w, send(0, 1, "o"), impl.HpKind)
		denies(t, "no node, to a third", w, send(0, 2, "o"), impl.HpKind)
	}
	denies(t, "ten posts", w, send(0, 1, "a"), impl.HpFull)
	denies(t, "ten posts of others", w, send(1, 0, "b"), impl.HpFull)
}

// What is sent is the text of that moment, whatever its sender does then.
func TestSentThenChanged(t *testing.T) {
	w := doing(t, worldNew(t, 2), act(0, opElement("a", "ul")), act(0, opElement("b", "li")), act(0, opAppend("a", "b")), send(0, 1, "a"))
	sent := w.Heaps[0]
	w = doing(t, w, act(0, opElement("c", "p")), act(0, opAppend("b", "c")), send(0, 1, "a"), act(0, opDetach("b")), act(0, opDrop("a")), send(0, 1, "b"))
	if postsOf(w) != "0 1 <ul><li></li></ul> 0 1 <ul><li><p></p></li></ul> 0 1 <li><p></p></li>" {
		t.Fatal(postsOf(w))
	}
	if sameHeap(sent, w.Heaps[0]) || !sameHeap(w.Heaps[1], impl.HeapNew()) {
		t.Fatal(w.Heaps)
	}
	was := w.Heaps[0]
	w = doing(t, w, take(1, "x"), take(1, "y"), take(1, "x"))
	if len(w.Posts) != 0 || !sameHeap(w.Heaps[0], was) {
		t.Error(w)
	}
	// x is the last one that was called so
	for name, want := range map[string]string{"x": "<li><p></p></li>", "y": "<ul><li><p></p></li></ul>"} {
		id, _ := impl.NodeOf(w.Heaps[1], name)
		if x, _ := impl.TreeOf(w.Heaps[1], id); impl.TreeText(x) != want {
			t.Error(name, impl.TreeText(x))
		}
	}
	// what is taken is its taker's own
	w = doing(t, w, act(1, opFirst("y", "k")), act(1, opDetach("k")))
	if !sameHeap(w.Heaps[0], was) {
		t.Error(w.Heaps[0])
	}
	denies(t, "no more", w, take(1, "z"), impl.HpNone)
}

// Names, listeners and objects are not sent: a tree's tags alone are.
func TestOnlyTheTreeIsSent(t *testing.T) {
	plain := doing(t, worldNew(t, 2), act(0, opElement("a", "p")), send(0, 1, "a"), take(1, "x"))
	rich := doing(t, worldNew(t, 2), act(0, opObject("o")), act(0, opElement("a", "p")), act(0, opSet("a", "f", "o")), act(0, opListen("a", listeners(1)[0])),
		act(0, opDoc("d")), act(0, opAppend("d", "a")), send(0, 1, "a"), take(1, "x"))
	if !sameHeap(plain.Heaps[1], rich.Heaps[1]) {
		t.Error(plain.Heaps[1], rich.Heaps[1])
	}
	if h := rich.Heaps[1]; len(h.Globals) != 1 || len(h.Objs) != 1 || len(h.Objs[0].Fields) != 0 || len(h.Nodes[1].Listeners) != 0 || h.Nodes[1].Parent != 0 {
		t.Error(h)
	}
}

// Several posts between the same two and between others, taken in turn.
func TestPostsInTheirOrder(t *testing.T) {
	w := worldNew(t, 3)
	for who := range int64(3) {
		for _, tag := range []string{"a", "b", "c"} {
			w = doing(t, w, act(who, opElement(tag, tag+string(rune('p'+who)))))
		}
	}
	w = doing(t, w, send(0, 2, "a"), send(1, 2, "a"), send(0, 1, "b"), send(0, 2, "b"), send(2, 1, "a"), send(2, 0, "c"), send(1, 2, "c"), send(0, 2, "a"))
	if postsOf(w) != "0 2 <ap></ap> 1 2 <aq></aq> 0 1 <bp></bp> 0 2 <bp></bp> 2 1 <ar></ar> 2 0 <cr></cr> 1 2 <cq></cq> 0 2 <ap></ap>" {
		t.Fatal(postsOf(w))
	}
	for i, c := range []struct {
		who  int64
		text string
	}{
		{2, "<ap></ap>"}, {2, "<aq></aq>"}, {1, "<bp></bp>"}, {0, "<cr></cr>"}, {2, "<bp></bp>"}, {1, "<ar></ar>"}, {2, "<cq></cq>"}, {2, "<ap></ap>"},
	} {
		name := "n" + string(rune('a'+i))
		w = doing(t, w, take(c.who, name))
		id, _ := impl.NodeOf(w.Heaps[c.who], name)
		if x, _ := impl.TreeOf(w.Heaps[c.who], id); impl.TreeText(x) != c.text {
			t.Error(i, impl.TreeText(x), c.text)
		}
	}
	for who := range int64(3) {
		denies(t, "all are taken", w, take(who, "x"), impl.HpNone)
	}
	one := doing(t, busyWorld(t), take(1, "z"))
	if postsOf(one) != "1 0 <b><b></b></b> 2 1 <c></c> 0 2 <d></d> 0 1 <e></e> 1 2 <f></f> 0 1 <a></a>" {
		t.Error(postsOf(one))
	}
}

// A post for which there is no room stays where it is, and keeps those behind
// it.
func TestNoRoomToTake(t *testing.T) {
	w := worldNew(t, 2)
	w.Posts = []impl.Post{post(0, 1, impl.TreeText(chain("a", 15))), post(1, 0, "<c></c>"), post(0, 1, "<b></b>")}
	w = doing(t, w, act(1, opElement("x", "p")))
	denies(t, "15 nodes", w, take(1, "x"), impl.HpFull)
	denies(t, "15 nodes", w, take(1, "new"), impl.HpFull)
	doing(t, w, take(0, "x"))
	w = doing(t, w, closes(0))
	denies(t, "nothing is left", w, take(1, "x"), impl.HpNone)

	w = worldNew(t, 2)
	w.Posts = []impl.Post{post(0, 1, impl.TreeText(chain("a", 15))), post(0, 1, "<b></b>")}
	w = doing(t, w, take(1, "x"))
	if len(w.Heaps[1].Nodes) != 16 || len(w.Posts) != 1 {
		t.Error(w)
	}
	denies(t, "16 nodes", w, take(1, "x"), impl.HpFull)

	// one object, or one name, too many; Next at its end
	for _, c := range []struct {
		what string
		full func(h *impl.Heap)
	}{
		{"objects", func(h *impl.Heap) {
			for ; len(h.Objs) < 16; h.Next++ {
				h.Objs = append(h.Objs, impl.Obj{Id: h.Next})
			}
		}},
		{"names", func(h *impl.Heap) { h.Objs, h.Next, h.Globals = []impl.Obj{{Id: 2}}, 3, fieldsTo(2, 8) }},
		{"Ids", func(h *impl.Heap) { h.Next = 999999999 }},
	} {
		w := worldNew(t, 2)
		w.Posts = []impl.Post{post(0, 1, "<b></b>")}
		c.full(&w.Heaps[1])
		denies(t, c.what, w, take(1, "x"), impl.HpFull)
	}
}

// The longest tree that may be sent: 30 nodes are no right heap's, but a post
// may have them.
func TestGreatPosts(t *testing.T) {
	w := worldNew(t, 2)
	w.Posts = []impl.Post{post(0, 1, impl.TreeText(star("abcdef", 30)))}
	denies(t, "30 nodes", w, take(1, "x"), impl.HpFull)
	w = worldNew(t, 2)
	w.Heaps[0] = fullHeap()
	w = doing(t, w, send(0, 1, "globaa"))
	w.Heaps[0].Globals[0].Obj = 2 // of Doc, which has all others below it
	w = doing(t, w, send(0, 1, "globaa"))
	if len(w.Posts[1].Text) != 16*17 {
		t.Fatal(w.Posts)
	}
	w = doing(t, w, take(1, "x"))
	denies(t, "16 nodes beside two", w, take(1, "y"), impl.HpFull)
}

func TestClosed(t *testing.T) {
	w := busyWorld(t)
	for who, want := range []string{"2 1 <c></c> 1 2 <f></f>", "0 2 <d></d>", "0 1 <a></a> 1 0 <b><b></b></b> 0 1 <e></e> 0 1 <a></a>"} {
		after := doing(t, w, closes(int64(who)))
		if postsOf(after) != want || !sameHeap(after.Heaps[who], impl.HeapNew()) || len(after.Heaps) != 3 {
			t.Error(who, postsOf(after), after.Heaps)
		}
		again := doing(t, after, closes(int64(who)))
		if !sameWorld(again, after) {
			t.Error(who, again)
		}
		// it goes on as a new one
		doing(t, after, act(int64(who), opElement("a", "p")), send(int64(who), int64(who+1)%3, "a"))
	}
	all := doing(t, w, closes(0), closes(1), closes(2))
	if !sameWorld(all, worldNew(t, 3)) {
		t.Error(all)
	}
	two := doing(t, worldNew(t, 2), act(0, opDoc("d")), send(0, 1, "d"), act(1, opDoc("e")), send(1, 0, "e"), closes(1))
	if len(two.Posts) != 0 || global(two.Heaps[0], "d") == 0 {
		t.Error(two)
	}
}

// Promise 15, of all that few calls can come to.
func TestFewDeeds(t *testing.T) {
	for _, n := range []int64{2, 3} {
		var deeds []deed
		for who := range n {
			deeds = append(deeds, act(who, opElement("a", string(rune('p'+who)))), take(who, "a"), closes(who))
			for to := range n {
				if to != who {
					deeds = append(deeds, send(who, to, "a"))
				}
			}
		}
		deeds = append(deeds, act(0, opElement("b", "z")), act(0, opAppend("a", "b")))
		first := doing(t, worldNew(t, n), act(0, opElement("a", "ul")), act(0, opObject("b")), act(1, opElement("a", "em")), send(1, 0, "a"), send(0, n-1, "a"))
		seen, codes := map[string]int{}, map[int64]int{}
		most := int(6 - n)
		each(deeds, most, func(l []deed) {
			w := first
			for _, d := range l[:most-1] {
				w, _ = d.on(w)
			}
			after, code := asksDeed(t, w, l[most-1])
			codes[code]++
			seen[fmt.Sprint(after)]++
		})
		if len(seen) < 500 || codes[impl.HpDone] < 1000 || codes[impl.HpNone] < 500 {
			t.Error("too much alike", n, len(seen), codes)
		}
	}
}

// anyDeed is right by its form, most times; keen are such as send more than
// they take.
func anyDeed(r *rand.Rand, n int64, keen bool, ops []impl.Op) deed {
	names := strings.Split("abcdabcdabcdz", "")
	name, who := names[r.Intn(len(names))], r.Int63n(n)
	sends := 6
	if keen {
		sends = 14
	}
	switch at := r.Intn(160); {
	case at < 80:
		return act(who, ops[r.Intn(len(ops))])
	case at < 80+4*sends:
		return send(who, (who+1+r.Int63n(n-1))%n, name)
	case at < 154:
		return take(who, name)
	case at == 154:
		return closes(who)
	}
	return []deed{send(who, who, name), take(n, name), closes(-1), send(who, n, name), take(who, "A"), act(who, impl.Op{})}[r.Intn(6)]
}

// Promise 15, over long ways.
func TestManyDeeds(t *testing.T) {
	r := rand.New(rand.NewSource(150))
	ops := wanderOps()
	codes := map[string]int{}
	for way := range 60 {
		n := int64(2 + way%2)
		w := worldNew(t, n)
		for range 250 {
			d := anyDeed(r, n, way%4 < 2, ops)
			after, code := asksDeed(t, w, d)
			codes[fmt.Sprint(d.what, code)]++
			w = after
		}
	}
	for _, want := range []string{"act0", "act2", "act3", "act4", "act5", "act6", "send0", "send2", "send3", "send4", "send5", "take0", "take2", "take3", "take4", "close0", "close2"} {
		if codes[want] < 5 {
			t.Error("too much alike", want, codes)
		}
	}
	if len(codes) != 17 {
		t.Error(codes)
	}
}

// Promise 15: an origin sees nothing of what another one has. Of two worlds one
// origin and the posts to it are the same, all else differs: what it does is the
// same in both.
func TestNothingIsSeenOfOthers(t *testing.T) {
	r := rand.New(rand.NewSource(151))
	ops := wanderOps()
	var heaps []impl.Heap
	wandered(152, 4, 60, func(h impl.Heap) { heaps = append(heaps, h) })
	any := func() impl.Heap { return heaps[r.Intn(len(heaps))] }
	codes := map[string]int{}
	for range 3000 {
		n, m := 2+r.Int63n(2), 2+r.Int63n(2)
		who := r.Int63n(min(n, m))
		own := any()
		mine := func(n int64, l []impl.Post) impl.World {
			w := impl.World{}
			for range n {
				w.Heaps = append(w.Heaps, any())
			}
			w.Heaps[who] = own
			for _, p := range l {
				w.Posts = append(w.Posts, post((who+1+r.Int63n(n-1))%n, who, p.Text))
				if r.Intn(2) == 0 {
					from := r.Int63n(n)
					if to := (from + 1) % n; to != who {
						w.Posts = append(w.Posts, post(from, to, "<x></x>"))
					}
				}
			}
			return w
		}
		var l []impl.Post
		for i := range r.Intn(4) {
			l = append(l, post(0, 0, impl.TreeText(comb(string(rune('a'+i)), 1+r.Intn(5)))))
		}
		one, other := mine(n, l), mine(m, l)
		for range 8 {
			d := anyDeed(r, min(n, m), false, ops)
			d.who = who
			if d.what == "send" {
				continue // what is sent stands among the posts, and is seen where it is taken
			}
			after, code := asksDeed(t, one, d)
			too, is := asksDeed(t, other, d)
			if code != is || !sameHeap(after.Heaps[who], too.Heaps[who]) {
				t.Fatalf("%+v: %+v\n%+v: %d %d", d, one, other, code, is)
			}
			codes[fmt.Sprint(d.what, code)]++
			one, other = after, too
		}
	}
	if codes["act0"] < 1000 || codes["take0"] < 300 || codes["take3"] < 300 || codes["take4"] < 100 || codes["close0"] < 50 {
		t.Error("too much alike", codes)
	}
}

// Promise 15: what comes is what was sent, in that order, to each by itself.
func TestWhatIsSentComes(t *testing.T) {
	r := rand.New(rand.NewSource(153))
	ops := wanderOps()
	came := 0
	for way := range 40 {
		n := int64(2 + way%2)
		w := worldNew(t, n)
		under := map[int64][]string{}
		for range 200 {
			d := anyDeed(r, n, false, ops)
			if d.what == "close" {
				continue
			}
			after, code := d.on(w)
			if code == impl.HpDone && d.what == "send" {
				id, _ := impl.NodeOf(w.Heaps[d.who], d.name)
				x, _ := impl.TreeOf(w.Heaps[d.who], id)
				under[d.to] = append(under[d.to], impl.TreeText(x))
			}
			if code == impl.HpDone && d.what == "take" {
				id, _ := impl.NodeOf(after.Heaps[d.who], d.name)
				x, _ := impl.TreeOf(after.Heaps[d.who], id)
				if len(under[d.who]) == 0 || impl.TreeText(x) != under[d.who][0] {
					t.Fatal(d, impl.TreeText(x), under)
				}
				under[d.who] = under[d.who][1:]
				came++
			}
			w = after
		}
	}
	if came < 300 {
		t.Error("too much alike", came)
	}
}

// Nothing is left running behind a call, whatever it answered.
func TestOriginsEnd(t *testing.T) {
	w := busyWorld(t)
	bad := busyWorld(t)
	bad.Heaps[2].Doc = 9
	was := runtime.NumGoroutine()
	for range 200 {
		for _, d := range []deed{act(0, opObject("a")), act(0, opDrop("zz")), act(3, opObject("a")), send(0, 1, "d"), send(0, 1, "zz"), send(0, 0, "d"), take(1, "x"), take(1, ""), closes(2), closes(-1)} {
			d.on(w)
			d.on(bad)
		}
	}
	for range 200 {
		if runtime.NumGoroutine() <= was {
			return
		}
		time.Sleep(10 * time.Millisecond)
	}
	t.Error("still running:", runtime.NumGoroutine()-was)
}

// Calls beside one another, on one world, do not disturb one another.
func TestDeedsBesideOneAnother(t *testing.T) {
	w := busyWorld(t)
	deeds := []deed{act(0, opElement("a", "p")), act(1, opDrop("a")), send(0, 2, "d"), take(1, "x"), take(2, "y"), closes(0), closes(2)}
	want := make([]impl.World, len(deeds))
	for i, d := range deeds {
		want[i], _ = asksDeed(t, w, d)
	}
	done := make(chan string)
	for i := range 50 {
		go func() {
			at := i % len(deeds)
			if got, _ := deeds[at].on(w); !sameWorld(got, want[at]) {
				done <- fmt.Sprintf("%+v: %+v", deeds[at], got)
				return
			}
			done <- ""
		}()
	}
	for range 50 {
		if what := <-done; what != "" {
			t.Error(what)
		}
	}
}

func TestVeryLongWorlds(t *testing.T) {
	defer endsSoon("very long worlds")()
	noWorld(t, "a million posts", impl.World{Heaps: worldNew(t, 2).Heaps, Posts: make([]impl.Post, 1<<20)})
	noWorld(t, "many heaps", impl.World{Heaps: make([]impl.Heap, 1<<18)})
	w := worldNew(t, 2)
	long := strings.Repeat("a", 1<<24)
	denies(t, "a long name", w, send(0, 1, long), impl.HpForm)
	denies(t, "a long name", w, take(0, long), impl.HpForm)
	if _, code := impl.Acted(w, 0, opObject(long)); code != impl.HpForm {
		t.Error(code)
	}
}

func sparedWorld(w impl.World) impl.World {
	w.Heaps = withRoom(w.Heaps, impl.Heap{Next: 77})
	for i := range w.Heaps {
		w.Heaps[i] = sparedHeap(w.Heaps[i])
	}
	w.Posts = withRoom(w.Posts, post(7, 7, "spare"))
	return w
}

// shownWorld tells a world with the room behind its lists.
func shownWorld(w impl.World) string {
	s := fmt.Sprint(len(w.Heaps), len(w.Posts), w.Posts[:cap(w.Posts)])
	for _, h := range w.Heaps[:cap(w.Heaps)] {
		s += shown(h)
	}
	return s
}

func worldAnswers(w impl.World, d deed) []any {
	after, code := d.on(w)
	first, ok := impl.WorldNew(d.who + 2)
	return []any{impl.WorldOk(w), after, code, first, ok}
}

func TestWorldsAreNewMemory(t *testing.T) {
	r := rand.New(rand.NewSource(154))
	ops := wanderOps()
	wrong := busyWorld(t)
	wrong.Posts[3].To = 3
	given := []impl.World{{}, wrong, busyWorld(t), worldNew(t, 2), worldNew(t, 3), {Heaps: []impl.Heap{fullHeap(), fullHeap()}}}
	full := busyWorld(t)
	full.Posts = slices.Repeat(full.Posts[:5], 2)
	given = append(given, full)
	codes := map[string]int{}
	for _, one := range given {
		w := sparedWorld(one)
		was := shownWorld(w)
		for range 200 {
			d := anyDeed(r, 3, true, ops)
			answers, again := worldAnswers(w, d), worldAnswers(w, d)
			if !reflect.DeepEqual(answers, again) {
				t.Fatal("not the same answers", answers, again)
			}
			sharesNothing(t, append(answers, again...), []any{w})
			codes[fmt.Sprint(d.what, answers[2])]++
		}
		if shownWorld(w) != was {
			t.Fatal("written into", w)
		}
	}
	if len(codes) < 18 {
		t.Error("too much alike", codes)
	}
	// heaps that share all that they have do not do so in an answer
	h := sparedHeap(storyHeap(t))
	w := impl.World{Heaps: []impl.Heap{h, h, h}, Posts: []impl.Post{post(0, 1, "<a></a>")}}
	was := shownWorld(w)
	for _, d := range []deed{act(0, opObject("a")), act(1, opDrop("zz")), send(0, 1, "d"), take(1, "x"), take(0, "x"), closes(2), closes(3)} {
		sharesNothing(t, worldAnswers(w, d), []any{w})
		asksDeed(t, w, d)
	}
	if shownWorld(w) != was {
		t.Fatal("written into", w)
	}
}

func sparedTree(x impl.Tree) impl.Tree {
	x.Kids = withRoom(x.Kids, leaf("spare"))
	for i := range x.Kids {
		x.Kids[i] = sparedTree(x.Kids[i])
	}
	return x
}

func shownTree(x impl.Tree) string {
	s := fmt.Sprint(x.Tag, len(x.Kids))
	for _, kid := range x.Kids[:cap(x.Kids)] {
		s += "(" + shownTree(kid) + ")"
	}
	return s
}

func TestGrownIsNewMemory(t *testing.T) {
	wrong := smallHeap()
	wrong.Doc = 9
	for _, one := range []impl.Heap{impl.HeapNew(), smallHeap(), fullHeap(), storyHeap(t), wrong} {
		h := sparedHeap(one)
		was := shown(h)
		for _, given := range []impl.Tree{leaf("a"), comb("a", 9), star("b", 15), chain("c", 30), {}, node("a", leaf("b"), leaf("C"))} {
			x := sparedTree(given)
			had := shownTree(x)
			for _, name := range []string{"a", "d", ""} {
				after, code := impl.Grown(h, name, x)
				again, is := impl.Grown(h, name, x)
				if code != is || !reflect.DeepEqual(after, again) {
					t.Fatal("not the same answers", after, again)
				}
				sharesNothing(t, []any{after, again}, []any{h, x})
			}
			if shownTree(x) != had {
				t.Fatal("written into", x)
			}
		}
		if shown(h) != was {
			t.Fatal("written into", h)
		}
	}
}
