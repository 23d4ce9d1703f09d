package tests

import (
	"fmt"
	"math/rand"
	"reflect"
	"slices"
	"strings"
	"testing"

	"loop.example/g00376/impl"
)

// firedIn tells an event anew: all that could be called is written down ahead,
// node by node as they are gone to, and is then gone through.
func firedIn(h impl.Heap, name, typ string) (impl.Heap, []impl.Call, int64) {
	if !isRight(h) {
		return impl.Heap{}, nil, 1
	}
	if !isName(name) || !isName(typ) {
		return h, nil, 2
	}
	id, ok := nodeCalled(h, name)
	if !ok {
		return h, nil, 3
	}
	if id == 0 {
		return h, nil, 5
	}
	gone, calls := map[[2]int]bool{}, []impl.Call(nil)
visits:
	for _, visit := range visitsOf(h, id, typ) {
		stopped := false
		for _, place := range visit {
			n := h.Nodes[place[0]]
			l := n.Listeners[place[1]]
			calls = append(calls, impl.Call{Node: n.Id, Name: l.Name})
			gone[place] = l.Once
			if l.Stop == 2 {
				break visits
			}
			stopped = stopped || l.Stop == 1
		}
		if stopped {
			break
		}
	}
	h.Nodes = slices.Clone(h.Nodes)
	for i, n := range h.Nodes {
		var left []impl.Listener
		for j, l := range n.Listeners {
			if !gone[[2]int{i, j}] {
				left = append(left, l)
			}
		}
		h.Nodes[i].Listeners = left
	}
	return h, calls, 0
}

// nodeCalled is the Node of the object of that name.
func nodeCalled(h impl.Heap, name string) (int64, bool) {
	for _, g := range h.Globals {
		for _, o := range h.Objs {
			if g.Name == name && g.Obj == o.Id {
				return o.Node, true
			}
		}
	}
	return 0, false
}

// visitsOf has, of each node as it is gone to, down and up, the places in Nodes
// and in Listeners of those that may be called there.
func visitsOf(h impl.Heap, id int64, typ string) [][][2]int {
	var down, up [][][2]int
	for id != 0 {
		at := slices.IndexFunc(h.Nodes, func(n impl.Node) bool { return n.Id == id })
		var caught, others [][2]int
		for j, l := range h.Nodes[at].Listeners {
			if l.Type == typ && l.Capture {
				caught = append(caught, [2]int{at, j})
			} else if l.Type == typ {
				others = append(others, [2]int{at, j})
			}
		}
		down = append([][][2]int{caught}, down...)
		up = append(up, others)
		id = h.Nodes[at].Parent
	}
	return append(down, up...)
}

// asksFired holds what is told of an event against the telling above.
func asksFired(t *testing.T, h impl.Heap, name, typ string) (impl.Heap, []impl.Call) {
	t.Helper()
	want, calls, code := firedIn(h, name, typ)
	got, heard, c := impl.Fired(h, name, typ)
	if c != code || !slices.Equal(heard, calls) || !sameHeap(got, want) {
		t.Fatalf("%+v: fired %q %q: %v, code %d, want %v, %d;\nleft %+v,\nwant %+v", h, name, typ, heard, c, calls, code, got, want)
	}
	if code != 1 && !isRight(got) {
		t.Fatalf("%+v: fired %q %q leaves what is not right: %+v", h, name, typ, got)
	}
	return got, heard
}

func callText(calls []impl.Call) string {
	var words []string
	for _, c := range calls {
		words = append(words, fmt.Sprint(c.Node, c.Name))
	}
	return strings.Join(words, " ")
}

// hears asks who is called, and answers the heap that is left.
func hears(t *testing.T, what string, h impl.Heap, name, typ, want string) impl.Heap {
	t.Helper()
	left, calls := asksFired(t, h, name, typ)
	if got := callText(calls); got != want {
		t.Errorf("%s: %q, want %q", what, got, want)
	}
	return left
}

// listenersFrom reads words like "pc.key:c1o": a node's name, the listener's
// Name, its Type (click if none is there), and c for Capture, o for Once, 1 or 2
// for Stop.
func listenersFrom(words string) []impl.Op {
	var ops []impl.Op
	for _, word := range strings.Fields(words) {
		word, flags, _ := strings.Cut(word, ":")
		name, typ, _ := strings.Cut(word, ".")
		l := impl.Listener{Type: typ, Name: name, Capture: strings.Contains(flags, "c"), Once: strings.Contains(flags, "o")}
		if typ == "" {
			l.Type = "click"
		}
		if strings.Contains(flags, "1") {
			l.Stop = 1
		} else if strings.Contains(flags, "2") {
			l.Stop = 2
		}
		ops = append(ops, opListen(name[:1], l))
	}
	return ops
}

// threeDeep has the nodes 1 (called d), 3 in it (a), 5 in that (p) and 7 in that
// (q), 9 beside 3 (b), 11 apart (x) with 13 in it (y), and the object 15 (o).
func threeDeep(t *testing.T, listeners string) impl.Heap {
	t.Helper()
	h := did(t, impl.HeapNew(), opDoc("d"), opElement("a", "div"), opElement("p", "p"), opElement("q", "em"), opElement("b", "div"), opElement("x", "ul"), opElement("y", "li"),
		opAppend("d", "a"), opAppend("a", "p"), opAppend("p", "q"), opAppend("d", "b"), opAppend("x", "y"), opObject("o"))
	return did(t, h, listenersFrom(listeners)...)
}

func TestListenersFrom(t *testing.T) {
	got := listenersFrom("p pc.key:c1o a:2")
	want := []impl.Op{
		opListen("p", impl.Listener{Type: "click", Name: "p"}),
		opListen("p", impl.Listener{Type: "key", Name: "pc", Capture: true, Once: true, Stop: 1}),
		opListen("a", impl.Listener{Type: "click", Name: "a", Stop: 2}),
	}
	if !slices.Equal(got, want) {
		t.Error(got)
	}
	h := threeDeep(t, "")
	for name, id := range map[string]int64{"d": 1, "a": 3, "p": 5, "q": 7, "b": 9, "x": 11, "y": 13} {
		if got, _ := impl.NodeOf(h, name); got != id {
			t.Error(name, got)
		}
	}
}

func TestDownAndUp(t *testing.T) {
	h := threeDeep(t, "d dc:c a ac:c p pc:c q qc:c")
	hears(t, "the lowest", h, "q", "click", "1dc 3ac 5pc 7qc 7q 5p 3a 1d")
	hears(t, "in the midst", h, "p", "click", "1dc 3ac 5pc 5p 3a 1d")
	hears(t, "just below", h, "a", "click", "1dc 3ac 3a 1d")
	hears(t, "Doc", h, "d", "click", "1dc 1d")
	hears(t, "beside", h, "b", "click", "1dc 1d")
	hears(t, "apart", h, "y", "click", "")
	down := threeDeep(t, "d:c a:c p:c")
	hears(t, "down alone", down, "p", "click", "1d 3a 5p")
	up := threeDeep(t, "d a p")
	hears(t, "up alone", up, "p", "click", "5p 3a 1d")
	gaps := threeDeep(t, "dc:c p q:c")
	hears(t, "not at each node", gaps, "q", "click", "1dc 7q 5p")
	none := threeDeep(t, "")
	if left := hears(t, "nobody listens", none, "q", "click", ""); !sameHeap(left, none) {
		t.Error(left)
	}
}

func TestMoreThanOneAtANode(t *testing.T) {
	h := threeDeep(t, "aa ab:c ac ad:c pa:c pb pc pd:c da da db:c da")
	hears(t, "in the order in which they stand", h, "p", "click", "1db 3ab 3ad 5pa 5pd 5pb 5pc 3aa 3ac 1da 1da 1da")
	hears(t, "of one node", h, "a", "click", "1db 3ab 3ad 3aa 3ac 1da 1da 1da")
}

func TestTypesOfEvents(t *testing.T) {
	h := threeDeep(t, "da.key db.clic dc.clicks dd.click pa.key:c pb.k:c2 pc.keys:c1 pd.abcdef:o")
	hears(t, "click", h, "p", "click", "1dd")
	hears(t, "key", h, "p", "key", "5pa 1da")
	hears(t, "clic", h, "p", "clic", "1db")
	hears(t, "clicks", h, "p", "clicks", "1dc")
	hears(t, "six letters", h, "p", "abcdef", "5pd")
	hears(t, "k", h, "p", "k", "5pb")
	if left := hears(t, "a type of nobody", h, "p", "none", ""); !sameHeap(left, h) {
		t.Error(left)
	}
	// What stops events of one type, or goes with them, does nothing to others.
	h = threeDeep(t, "d a pa.key:2o pb.key:c2o pc:o q.key:c2o")
	left := hears(t, "those of another type", h, "q", "click", "5pc 3a 1d")
	if want := threeDeep(t, "d a pa.key:2o pb.key:c2o q.key:c2o"); !sameHeap(left, want) {
		t.Error(left)
	}
}

func TestOnce(t *testing.T) {
	h := threeDeep(t, "d dc:co a:o ac:c p pc:co pd:o q:o qc:co b:o y:o")
	h = hears(t, "first", h, "p", "click", "1dc 3ac 5pc 5p 5pd 3a 1d")
	if want := threeDeep(t, "d ac:c p q:o qc:co b:o y:o"); !sameHeap(h, want) {
		t.Errorf("%+v", h)
	}
	h = hears(t, "again", h, "p", "click", "3ac 5p 1d")
	h = hears(t, "lower", h, "q", "click", "3ac 7qc 7q 5p 1d")
	h = hears(t, "and again", h, "q", "click", "3ac 5p 1d")
	h = hears(t, "beside", h, "b", "click", "9b 1d")
	h = hears(t, "beside, again", h, "b", "click", "1d")
	h = hears(t, "apart", h, "y", "click", "13y")
	h = hears(t, "apart, again", h, "y", "click", "")
	if want := threeDeep(t, "d ac:c p"); !sameHeap(h, want) {
		t.Errorf("%+v", h)
	}
}

// One with Once goes just when it was called, not when it would have been.
func TestOnceBehindAStop(t *testing.T) {
	h := threeDeep(t, "d:o dc:co ac:c1 ad:co a:o p:o pc:co")
	h = hears(t, "stopped on its way down", h, "p", "click", "1dc 3ac 3ad")
	if want := threeDeep(t, "d:o ac:c1 a:o p:o pc:co"); !sameHeap(h, want) {
		t.Errorf("%+v", h)
	}
	h = threeDeep(t, "pa:o pb:o2 pc:o d:o")
	h = hears(t, "all, behind it", h, "p", "click", "5pa 5pb")
	if want := threeDeep(t, "pc:o d:o"); !sameHeap(h, want) {
		t.Errorf("%+v", h)
	}
	h = hears(t, "then it is gone, and stops nobody", h, "p", "click", "5pc 1d")
	h = hears(t, "then all are", h, "p", "click", "")
	if want := threeDeep(t, ""); !sameHeap(h, want) {
		t.Errorf("%+v", h)
	}
}

// Two that are alike are two: each goes when it is called itself.
func TestAlikeWithOnce(t *testing.T) {
	h := threeDeep(t, "p:o2 p:o2 p:o2 p d")
	for _, want := range []string{"5p", "5p", "5p", "5p 1d", "5p 1d"} {
		h = hears(t, "alike", h, "p", "click", want)
	}
	h = threeDeep(t, "p p:o p p:o")
	h = hears(t, "some of them", h, "p", "click", "5p 5p 5p 5p")
	if want := threeDeep(t, "p p"); !sameHeap(h, want) {
		t.Errorf("%+v", h)
	}
	h = threeDeep(t, "p:c p p:co p:o a:o a:co")
	h = hears(t, "in both phases", h, "p", "click", "3a 5p 5p 5p 5p 3a")
	if want := threeDeep(t, "p:c p"); !sameHeap(h, want) {
		t.Errorf("%+v", h)
	}
}

func TestStopOnTheWay(t *testing.T) {
	for _, c := range []struct{ listeners, node, want string }{
		{"dc:c d ac:c1 a pc:c p", "p", "1dc 3ac"},
		{"dc:c d ac:c1 ad:c a pc:c p", "p", "1dc 3ac 3ad"},
		{"dc:c1 dd:c d ac:c a p", "p", "1dc 1dd"},
		{"dc:c d ac:c2 ad:c a pc:c p", "p", "1dc 3ac"},
		{"dc:c2 dd:c d ac:c a p", "p", "1dc"},
		{"dc:c d ac:c aa:1 ab pc:c p", "p", "1dc 3ac 5pc 5p 3aa 3ab"},
		{"dc:c d ac:c aa ab:1 pc:c p", "p", "1dc 3ac 5pc 5p 3aa 3ab"},
		{"dc:c d ac:c aa:2 ab pc:c p", "p", "1dc 3ac 5pc 5p 3aa"},
		{"dc:c d ac:c aa ab:2 pc:c p", "p", "1dc 3ac 5pc 5p 3aa 3ab"},
		{"dc:c d:1 dd ac:c a p", "p", "1dc 3ac 5p 3a 1d 1dd"},
		{"dc:c d:2 dd ac:c a p", "p", "1dc 3ac 5p 3a 1d"},
		{"aa:1 ab:2 ac ad:1 d p", "p", "5p 3aa 3ab"},
		{"aa:c1 ab:c2 ac:c ad d p", "p", "3aa 3ab"},
		{"aa:1 ab ac:1 ad d p", "p", "5p 3aa 3ab 3ac 3ad"},
		{"d dc:c bb:c2 ba:2 y:2 q:c1 qa:2 p", "p", "1dc 5p 1d"}, // beside, apart and below nobody is asked
	} {
		hears(t, c.listeners, threeDeep(t, c.listeners), c.node, "click", c.want)
	}
}

// The event's own node is gone to twice: stopped there on its way down, by
// either Stop, it does not come there on its way up.
func TestStopAtTheNodeItself(t *testing.T) {
	for _, c := range []struct{ listeners, want string }{
		{"dc:c d ac:c a pc:c1 p", "1dc 3ac 5pc"},
		{"dc:c d ac:c a p pc:c1", "1dc 3ac 5pc"},
		{"dc:c d ac:c a pc:c1 p pd:c", "1dc 3ac 5pc 5pd"},
		{"dc:c d ac:c a pd:c p pc:c1", "1dc 3ac 5pd 5pc"},
		{"dc:c d ac:c a pc:c2 p pd:c", "1dc 3ac 5pc"},
		{"dc:c d ac:c a pd:c p pc:c2", "1dc 3ac 5pd 5pc"},
		{"dc:c d ac:c a pc:c1 pd:c2 pe:c p", "1dc 3ac 5pc 5pd"},
		{"dc:c d ac:c a pa:1 pb pc:c", "1dc 3ac 5pc 5pa 5pb"},
		{"dc:c d ac:c a pa pb:1 pc:c", "1dc 3ac 5pc 5pa 5pb"},
		{"dc:c d ac:c a pa:2 pb pc:c", "1dc 3ac 5pc 5pa"},
		{"dc:c d ac:c a pa pb:2 pc:c", "1dc 3ac 5pc 5pa 5pb"},
		{"dc:c d ac:c a pa:1 pb:2 pd pc:c", "1dc 3ac 5pc 5pa 5pb"},
		{"pc:c1", "5pc"},
		{"pc:c2", "5pc"},
		{"p:1", "5p"},
		{"p:2", "5p"},
	} {
		hears(t, c.listeners, threeDeep(t, c.listeners), "p", "click", c.want)
	}
}

func TestNodesWithoutParent(t *testing.T) {
	h := threeDeep(t, "x xc:c y yc:c dc:c d")
	hears(t, "the first of another tree", h, "x", "click", "11xc 11x")
	hears(t, "below it", h, "y", "click", "11xc 13yc 13y 11x")
	hears(t, "Doc", h, "d", "click", "1dc 1d")
	h = did(t, h, opDetach("y"))
	hears(t, "detached", h, "y", "click", "13yc 13y")
	h = did(t, h, opAppend("q", "y"))
	hears(t, "put elsewhere", h, "y", "click", "1dc 13yc 13y 1d")
	for _, c := range []struct{ listeners, want string }{
		{"xa:c1 xb:c xc", "11xa 11xb"},
		{"xa:c2 xb:c xc", "11xa"},
		{"xa:1 xb xc:c", "11xc 11xa 11xb"},
		{"xa:2 xb xc:c", "11xc 11xa"},
		{"xa:o xb:co xc:o", "11xb 11xa 11xc"},
	} {
		hears(t, c.listeners, threeDeep(t, c.listeners), "x", "click", c.want)
	}
}

func TestTwoNamesOfOneObject(t *testing.T) {
	h := did(t, threeDeep(t, "d p:o pc:c"), opDrop("o"), opSet("p", "me", "p"), opGet("p", "me", "z"))
	h = hears(t, "the other name", h, "z", "click", "5pc 5p 1d")
	hears(t, "the first one", h, "p", "click", "5pc 1d")
}

// 16 nodes, each but the last the parent of the next one, each with 4 listeners.
func deepHeap(stop int64, at int) impl.Heap {
	h := impl.Heap{Next: 18, Doc: 1, Objs: []impl.Obj{{Id: 17, Node: 16}}, Globals: []impl.Field{{Name: "low", Obj: 17}}}
	for i := range int64(16) {
		n := impl.Node{Id: i + 1, Tag: "a", Parent: i}
		if i < 15 {
			n.Kids = []int64{i + 2}
		} else {
			n.Wrapper = 17
		}
		for j, name := range []string{"a", "b", "c", "e"} {
			l := impl.Listener{Type: "t", Name: name, Capture: j%2 == 1, Once: j > 1}
			if int(4*i)+j == at {
				l.Stop = stop
			}
			n.Listeners = append(n.Listeners, l)
		}
		h.Nodes = append(h.Nodes, n)
	}
	return h
}

func TestDeepWay(t *testing.T) {
	h := deepHeap(0, 0)
	var down, up []string
	for i := 1; i <= 16; i++ {
		down = append(down, fmt.Sprint(i, "b"), fmt.Sprint(i, "e"))
		up = append(up, fmt.Sprint(17-i, "a"), fmt.Sprint(17-i, "c"))
	}
	h = hears(t, "all 64", h, "low", "t", strings.Join(append(down, up...), " "))
	_, calls := asksFired(t, h, "low", "t")
	if len(calls) != 32 {
		t.Error(len(calls))
	}
	for at := range 64 {
		for stop := range int64(3) {
			asksFired(t, deepHeap(stop, at), "low", "t")
		}
	}
}

func TestFullHeapHears(t *testing.T) {
	h := fullHeap()
	h = hears(t, "the third one stops all, and goes", h, "globaa", "zyxwvu", "1abcdef 1abcdef")
	h.Nodes[0].Listeners = nil
	h = hears(t, "so, too, at its own node", h, "globah", "zyxwvu", "31abcdef 31abcdef")
	h = hears(t, "then all others hear it", h, "globaa", "zyxwvu", "31abcdef 31abcdef 31abcdef")
	hears(t, "and the last one is gone", h, "globaa", "zyxwvu", "31abcdef 31abcdef")
}

// Promise 7: when nobody stops it all on its way hear it, and nobody else, each
// once and in its phase.
func TestAllOnTheWayHearIt(t *testing.T) {
	r := rand.New(rand.NewSource(7))
	most := 0
	listeningHeaps(r, 300, 1, func(h impl.Heap, name, typ string) {
		id, ok := impl.NodeOf(h, name)
		if !ok {
			return
		}
		above := impl.Above(h, id)
		_, calls := asksFired(t, h, name, typ)
		most = max(most, len(calls))
		want := map[impl.Call]int{}
		for _, n := range h.Nodes {
			for _, l := range n.Listeners {
				if l.Type == typ && slices.Contains(above, n.Id) {
					want[impl.Call{Node: n.Id, Name: l.Name}]++
				}
			}
		}
		for _, c := range calls {
			want[c]--
		}
		for c, n := range want {
			if n != 0 {
				t.Fatalf("%+v: %v: %d more than called: %v", h, c, n, calls)
			}
		}
		asksPhases(t, h, above, calls)
	})
	if most < 8 {
		t.Error("never are many called", most)
	}
}

// asksPhases: names tell which ones have Capture (see listeningHeaps); these
// come first, each no lower than the one behind it, then the others, each no
// higher.
func asksPhases(t *testing.T, h impl.Heap, above []int64, calls []impl.Call) {
	t.Helper()
	step := func(c impl.Call) int {
		at := slices.Index(above, c.Node)
		if strings.HasPrefix(c.Name, "c") {
			return -1 - at
		}
		return at
	}
	for i := 1; i < len(calls); i++ {
		if step(calls[i-1]) > step(calls[i]) {
			t.Fatalf("%+v: %v", h, calls)
		}
	}
}

// listeningHeaps wander, and have listeners with any of the Stops below stops.
func listeningHeaps(r *rand.Rand, heaps int, stops int64, each func(h impl.Heap, name, typ string)) {
	names, types := strings.Split("abcde", ""), []string{"t", "u"}
	ops := append(wanderOps(), opAppend("a", "b"), opAppend("b", "c"), opAppend("c", "d"), opDoc("a"))
	for range heaps {
		h := impl.HeapNew()
		for range 40 {
			o := ops[r.Intn(len(ops))]
			if o.Kind != impl.OpListen {
				h, _ = impl.Ran(h, o)
			}
		}
		for i := range h.Nodes {
			for j := range r.Intn(5) {
				l := impl.Listener{Type: types[r.Intn(5)/4], Capture: r.Intn(2) == 0, Once: r.Intn(3) == 0, Stop: max(0, r.Int63n(stops*4)-3*stops), Name: "b" + string(rune('a'+j))}
				if l.Capture {
					l.Name = "c" + string(rune('a'+j))
				}
				h.Nodes[i].Listeners = append(h.Nodes[i].Listeners, l)
			}
		}
		for _, name := range names {
			for _, typ := range types {
				each(h, name, typ)
			}
		}
	}
}

func TestWanderedHeapsHear(t *testing.T) {
	r := rand.New(rand.NewSource(9))
	stopped, codes := 0, map[int64]int{}
	listeningHeaps(r, 500, 3, func(h impl.Heap, name, typ string) {
		for range 3 { // some are gone each time
			left, calls := asksFired(t, h, name, typ)
			_, _, code := impl.Fired(h, name, typ)
			codes[code]++
			for _, c := range calls {
				if l := listenerIn(h, c, typ); l.Stop != 0 {
					stopped++
				}
			}
			h = left
		}
	})
	if stopped < 100 || codes[0] < 100 || codes[3] < 100 || codes[5] < 100 {
		t.Error("too much alike", stopped, codes)
	}
}

func listenerIn(h impl.Heap, c impl.Call, typ string) impl.Listener {
	for _, n := range h.Nodes {
		for _, l := range n.Listeners {
			if n.Id == c.Node && l.Name == c.Name && l.Type == typ {
				return l
			}
		}
	}
	return impl.Listener{}
}

// Every pair of listeners at the node itself, with every one at its parent.
func TestAllFewListeners(t *testing.T) {
	var all []impl.Listener
	for i := range int64(12) {
		all = append(all, impl.Listener{Type: "t", Name: string(rune('a' + i)), Stop: i % 3, Capture: i/3%2 == 1, Once: i/6 == 1})
	}
	h := did(t, impl.HeapNew(), opDoc("d"), opElement("p", "p"), opAppend("d", "p"))
	for _, first := range all {
		for _, second := range all {
			h.Nodes[1].Listeners = []impl.Listener{first, second}
			asksFired(t, h, "p", "t")
			for _, other := range all {
				h.Nodes[0].Listeners = []impl.Listener{other, first}
				left, _ := asksFired(t, h, "p", "t")
				asksFired(t, left, "p", "t")
				asksFired(t, left, "d", "t")
			}
			h.Nodes[0].Listeners = nil
		}
	}
}

// notFired asks for a refusal: the heap as it is, no calls, that code.
func notFired(t *testing.T, what string, h impl.Heap, name, typ string, want int64) {
	t.Helper()
	after, calls, code := impl.Fired(h, name, typ)
	if code != want || len(calls) != 0 || !sameHeap(after, h) {
		t.Errorf("%s: fired %q %q: code %d, want %d; %v %+v", what, name, typ, code, want, calls, after)
	}
	asksFired(t, h, name, typ)
}

func TestEventsThatAreRefused(t *testing.T) {
	h := threeDeep(t, "d:o dc:co p:o pc:co")
	for _, none := range []string{"", "abcdefg", "P", "p ", " p", "p1", "é", "<p>", "p\x00", strings.Repeat("p", 1<<16)} {
		notFired(t, "no name", h, none, "click", impl.HpForm)
		notFired(t, "no type", h, "p", none, impl.HpForm)
		notFired(t, "neither", h, none, none, impl.HpForm)
		notFired(t, "no type, then no object", h, "z", none, impl.HpForm)
		notFired(t, "no type, then no node", h, "o", none, impl.HpForm)
	}
	for _, name := range []string{"z", "pp", "abcdef", "doc", "click", "pc"} {
		notFired(t, "no object", h, name, "click", impl.HpNone)
	}
	notFired(t, "no node", h, "o", "click", impl.HpKind)
	notFired(t, "no node, and a type of nobody", h, "o", "none", impl.HpKind)
	notFired(t, "no object, and a type of nobody", h, "z", "none", impl.HpNone)
	notFired(t, "dropped", did(t, h, opDrop("p")), "p", "click", impl.HpNone)
	notFired(t, "a new heap", impl.HeapNew(), "d", "click", impl.HpNone)
	notFired(t, "a new heap, no name", impl.HeapNew(), "", "click", impl.HpForm)
	small := smallHeap()
	notFired(t, "an object of a field alone", small, "a", "click", impl.HpNone)
	notFired(t, "an object without a node", small, "e", "key", impl.HpKind)
}

func TestEventsInHeapsThatAreNotRight(t *testing.T) {
	defer endsSoon("events in heaps that are not right")()
	heapsNotRight(func(what string, h impl.Heap) {
		for _, name := range []string{"d", "e", "ea", "globaa", "none", ""} {
			for _, typ := range []string{"click", "zyxwvu", ""} {
				if after, calls, code := impl.Fired(h, name, typ); code != impl.HpWrong || len(calls) != 0 || !sameHeap(after, impl.Heap{}) {
					t.Error(what, name, typ, code, calls, after)
				}
			}
		}
	})
}

// Promise 17: fired twice with the same arguments, the answers are the same, and
// the arguments as they were.
func TestEventsAreNewMemory(t *testing.T) {
	once := threeDeep(t, "d:o dc:co pa:o pb:o pc:co pd:c a ac:c2o")
	wrong := smallHeap()
	wrong.Doc = 0
	for what, given := range map[string]impl.Heap{"new": impl.HeapNew(), "small": smallHeap(), "full": fullHeap(), "once": once, "deep": deepHeap(1, 40), "wrong": wrong} {
		h := sparedHeap(given)
		was := shown(h)
		for _, name := range []string{"d", "e", "ea", "p", "a", "o", "low", "globaa", "none", ""} {
			for _, typ := range []string{"click", "key", "t", "zyxwvu", "none", "1"} {
				after, calls, code := impl.Fired(h, name, typ)
				again, heard, code2 := impl.Fired(h, name, typ)
				if !reflect.DeepEqual([]any{after, calls, code}, []any{again, heard, code2}) {
					t.Fatal(what, name, typ, "not the same answers", after, calls, code, again, heard, code2)
				}
				sharesNothing(t, []any{after, calls, again, heard}, []any{h})
				if shown(h) != was {
					t.Fatal(what, name, typ, "written into", h)
				}
			}
		}
	}
}
