package tests

import (
	"fmt"
	"maps"
	"math"
	"math/rand"
	"slices"
	"strings"
	"testing"

	"loop.example/g00376/impl"
)

func opElement(name, tag string) impl.Op {
	return impl.Op{Kind: impl.OpElement, Name: name, Word: tag}
}
func opObject(name string) impl.Op { return impl.Op{Kind: impl.OpObject, Name: name} }
func opSet(name, field, other string) impl.Op {
	return impl.Op{Kind: impl.OpSet, Name: name, Word: field, Other: other}
}
func opGet(name, field, other string) impl.Op {
	return impl.Op{Kind: impl.OpGet, Name: name, Word: field, Other: other}
}
func opUnset(name, field string) impl.Op {
	return impl.Op{Kind: impl.OpUnset, Name: name, Word: field}
}
func opDrop(name string) impl.Op { return impl.Op{Kind: impl.OpDrop, Name: name} }
func opAppend(name, other string) impl.Op {
	return impl.Op{Kind: impl.OpAppend, Name: name, Other: other}
}
func opBefore(name, other string) impl.Op {
	return impl.Op{Kind: impl.OpBefore, Name: name, Other: other}
}
func opDetach(name string) impl.Op { return impl.Op{Kind: impl.OpDetach, Name: name} }
func opDoc(name string) impl.Op    { return impl.Op{Kind: impl.OpDoc, Name: name} }
func opFirst(name, other string) impl.Op {
	return impl.Op{Kind: impl.OpFirst, Name: name, Other: other}
}
func opListen(name string, l impl.Listener) impl.Op {
	return impl.Op{Kind: impl.OpListen, Name: name, Listener: l}
}

func sameHeap(a, b impl.Heap) bool {
	node := func(a, b impl.Node) bool {
		return a.Id == b.Id && a.Tag == b.Tag && a.Parent == b.Parent && a.Wrapper == b.Wrapper &&
			slices.Equal(a.Kids, b.Kids) && slices.Equal(a.Listeners, b.Listeners)
	}
	obj := func(a, b impl.Obj) bool {
		return a.Id == b.Id && a.Node == b.Node && slices.Equal(a.Fields, b.Fields)
	}
	return a.Next == b.Next && a.Doc == b.Doc && slices.EqualFunc(a.Nodes, b.Nodes, node) &&
		slices.EqualFunc(a.Objs, b.Objs, obj) && slices.Equal(a.Globals, b.Globals)
}

// did is what comes of ops that all are done.
func did(t *testing.T, h impl.Heap, ops ...impl.Op) impl.Heap {
	t.Helper()
	for _, o := range ops {
		after, code := impl.Ran(h, o)
		if code != impl.HpDone {
			t.Fatal(o, "is refused:", code)
		}
		h = after
	}
	return h
}

// refuses asks for the code, and for the heap as it was.
func refuses(t *testing.T, what string, h impl.Heap, o impl.Op, want int64) {
	t.Helper()
	after, code := impl.Ran(h, o)
	if code != want {
		t.Errorf("%s: %v: code %d, want %d", what, o, code, want)
	}
	if !sameHeap(after, h) {
		t.Errorf("%s: %v is refused, and leaves %v", what, o, after)
	}
}

func docText(h impl.Heap) string {
	tree, _ := impl.TreeOf(h, h.Doc)
	return impl.TreeText(tree)
}

func global(h impl.Heap, name string) int64 {
	id, _ := impl.GlobalOf(h, name)
	return id
}

// needs tells which fields a Kind names, beside Name: o for Other, w for Word,
// l for Listener.
var needs = map[int64]string{1: "w", 2: "", 3: "ow", 4: "ow", 5: "w", 6: "", 7: "o", 8: "o", 9: "", 10: "", 11: "o", 12: "l"}

func isOp(o impl.Op) bool {
	fields, ok := needs[o.Kind]
	has := func(letter string, name, zero bool) bool {
		if strings.Contains(fields, letter) {
			return name
		}
		return zero
	}
	l := o.Listener
	right := isName(l.Type) && isName(l.Name) && (l.Stop == 0 || l.Stop == 1 || l.Stop == 2)
	return ok && isName(o.Name) && has("o", isName(o.Other), o.Other == "") && has("w", isName(o.Word), o.Word == "") &&
		has("l", right, l == impl.Listener{})
}

func TestConstantsOfOps(t *testing.T) {
	kinds := []int64{impl.OpElement, impl.OpObject, impl.OpSet, impl.OpGet, impl.OpUnset, impl.OpDrop, impl.OpAppend, impl.OpBefore, impl.OpDetach, impl.OpDoc, impl.OpFirst, impl.OpListen}
	codes := []int64{impl.HpDone, impl.HpWrong, impl.HpForm, impl.HpNone, impl.HpFull, impl.HpKind, impl.HpLoop}
	for i, k := range kinds {
		if k != int64(i+1) {
			t.Error(i+1, k)
		}
	}
	for i, c := range codes {
		if c != int64(i) {
			t.Error(i, c)
		}
	}
}

var someListeners = []impl.Listener{
	{}, {Type: "click", Name: "f"}, {Type: "abcdef", Capture: true, Once: true, Stop: 2, Name: "abcdef"}, {Type: "a", Name: "a", Stop: 1},
	{Type: "a", Name: "a", Stop: 3}, {Type: "a", Name: "a", Stop: -1}, {Type: "a"}, {Name: "a"}, {Capture: true}, {Once: true}, {Stop: 1},
	{Type: "abcdefg", Name: "a"}, {Type: "a", Name: "abcdefg"}, {Type: "A", Name: "a"}, {Type: "a", Name: "1"}, {Type: "a", Name: "a", Stop: math.MinInt64},
}

// Every Kind with every field empty, right, too long or of other bytes.
func TestOpOk(t *testing.T) {
	texts := []string{"", "a", "abcdef", "abcdefg", "A", "a b"}
	kinds := []int64{-12, -1, 0, 1, 2, 3, 4, 5, 6, 7, 8, 9, 10, 11, 12, 13, 14, 256 + 2, 1<<32 + 2, math.MinInt64, math.MaxInt64}
	right := map[int64]int{}
	for _, kind := range kinds {
		for _, name := range texts {
			for _, other := range texts {
				for _, word := range texts {
					for _, l := range someListeners {
						o := impl.Op{Kind: kind, Name: name, Other: other, Word: word, Listener: l}
						if impl.OpOk(o) != isOp(o) {
							t.Fatal(o, impl.OpOk(o))
						}
						if isOp(o) {
							right[kind]++
						}
					}
				}
			}
		}
	}
	// two texts are names, three listeners are right
	for kind, fields := range needs {
		want := 2
		for _, f := range fields {
			want *= map[rune]int{'o': 2, 'w': 2, 'l': 3}[f]
		}
		if right[kind] != want {
			t.Error(kind, right[kind], want)
		}
	}
	if len(right) != len(needs) {
		t.Error(right)
	}
}

func TestRightOps(t *testing.T) {
	l := impl.Listener{Type: "click", Name: "f"}
	for _, o := range []impl.Op{
		opElement("a", "div"), opObject("a"), opSet("a", "x", "b"), opGet("a", "x", "b"), opUnset("a", "x"), opDrop("a"),
		opAppend("a", "b"), opBefore("a", "b"), opDetach("a"), opDoc("a"), opFirst("a", "b"), opListen("a", l), opSet("a", "a", "a"),
	} {
		if !impl.OpOk(o) {
			t.Error(o, "is refused")
		}
		o.Name = ""
		if impl.OpOk(o) {
			t.Error(o, "is accepted")
		}
	}
}

// The model tells the ops anew, of nodes and objects that point at one another.
type (
	modelNode struct {
		id        int64
		tag       string
		parent    *modelNode
		kids      []*modelNode
		wrapper   *modelObj
		listeners []impl.Listener
	}
	modelObj struct {
		id     int64
		node   *modelNode
		fields map[string]*modelObj
	}
	model struct {
		next    int64
		doc     *modelNode
		nodes   map[int64]*modelNode
		objs    map[int64]*modelObj
		globals map[string]*modelObj
	}
)

func modelOf(h impl.Heap) *model {
	m := &model{next: h.Next, nodes: map[int64]*modelNode{}, objs: map[int64]*modelObj{}, globals: map[string]*modelObj{}}
	for _, n := range h.Nodes {
		m.nodes[n.Id] = &modelNode{id: n.Id, tag: n.Tag, listeners: slices.Clone(n.Listeners)}
	}
	for _, o := range h.Objs {
		m.objs[o.Id] = &modelObj{id: o.Id, node: m.nodes[o.Node], fields: map[string]*modelObj{}}
	}
	for _, n := range h.Nodes {
		its := m.nodes[n.Id]
		its.parent, its.wrapper = m.nodes[n.Parent], m.objs[n.Wrapper]
		for _, kid := range n.Kids {
			its.kids = append(its.kids, m.nodes[kid])
		}
	}
	for _, o := range h.Objs {
		for _, f := range o.Fields {
			m.objs[o.Id].fields[f.Name] = m.objs[f.Obj]
		}
	}
	for _, g := range h.Globals {
		m.globals[g.Name] = m.objs[g.Obj]
	}
	m.doc = m.nodes[h.Doc]
	return m
}

func modelFields(held map[string]*modelObj) []impl.Field {
	var l []impl.Field
	for _, name := range slices.Sorted(maps.Keys(held)) {
		l = append(l, impl.Field{Name: name, Obj: held[name].id})
	}
	return l
}

func (m *model) heap() impl.Heap {
	h := impl.Heap{Next: m.next, Doc: m.doc.id, Globals: modelFields(m.globals)}
	for _, id := range slices.Sorted(maps.Keys(m.nodes)) {
		its := m.nodes[id]
		n := impl.Node{Id: id, Tag: its.tag, Listeners: its.listeners}
		if its.parent != nil {
			n.Parent = its.parent.id
		}
		if its.wrapper != nil {
			n.Wrapper = its.wrapper.id
		}
		for _, kid := range its.kids {
			n.Kids = append(n.Kids, kid.id)
		}
		h.Nodes = append(h.Nodes, n)
	}
	for _, id := range slices.Sorted(maps.Keys(m.objs)) {
		its := m.objs[id]
		o := impl.Obj{Id: id, Fields: modelFields(its.fields)}
		if its.node != nil {
			o.Node = its.node.id
		}
		h.Objs = append(h.Objs, o)
	}
	return h
}

func (m *model) wrapping(n *modelNode) *modelObj {
	if n != nil && n.wrapper != nil {
		return n.wrapper
	}
	o := &modelObj{id: m.next, node: n, fields: map[string]*modelObj{}}
	m.objs[m.next] = o
	m.next++
	if n != nil {
		n.wrapper = o
	}
	return o
}

func (m *model) leave(n *modelNode) {
	if n.parent != nil {
		n.parent.kids = slices.DeleteFunc(n.parent.kids, func(k *modelNode) bool { return k == n })
		n.parent = nil
	}
}

// under tells whether n is below what, or what itself.
func under(n, what *modelNode) bool {
	return n == what || n.parent != nil && under(n.parent, what)
}

// run changes the model, also when it tells a refusal at the end.
func (m *model) run(o impl.Op) int64 {
	switch o.Kind {
	case 1:
		n := &modelNode{id: m.next, tag: o.Word}
		m.nodes[m.next] = n
		m.next++
		m.globals[o.Name] = m.wrapping(n)
	case 2:
		m.globals[o.Name] = m.wrapping(nil)
	case 10:
		m.globals[o.Name] = m.wrapping(m.doc)
	default:
		if code := m.runOn(o, m.globals[o.Name], m.globals[o.Other]); code != 0 {
			return code
		}
	}
	if !m.hasRoom() {
		return 4
	}
	return 0
}

func (m *model) hasRoom() bool {
	room := m.next <= 1000000000 && len(m.nodes) <= 16 && len(m.objs) <= 16 && len(m.globals) <= 8
	for _, its := range m.objs {
		room = room && len(its.fields) <= 5
	}
	return room
}

func (m *model) runOn(o impl.Op, its, other *modelObj) int64 {
	two := o.Kind == 7 || o.Kind == 8
	if its == nil || (two || o.Kind == 3) && other == nil {
		return 3
	}
	switch o.Kind {
	case 3:
		its.fields[o.Word] = other
		return 0
	case 4, 5:
		if its.fields[o.Word] == nil {
			return 3
		}
		if o.Kind == 4 {
			m.globals[o.Other] = its.fields[o.Word]
		} else {
			delete(its.fields, o.Word)
		}
		return 0
	case 6:
		delete(m.globals, o.Name)
		return 0
	}
	if its.node == nil || two && other.node == nil {
		return 5
	}
	if two {
		return m.move(o.Kind, its.node, other.node)
	}
	return m.runOnNode(o, its.node)
}

func (m *model) runOnNode(o impl.Op, n *modelNode) int64 {
	switch {
	case o.Kind == 9 && n.parent == nil, o.Kind == 11 && len(n.kids) == 0:
		return 3
	case o.Kind == 12 && len(n.listeners) == 4:
		return 4
	case o.Kind == 9:
		m.leave(n)
	case o.Kind == 11:
		m.globals[o.Other] = m.wrapping(n.kids[0])
	case o.Kind == 12:
		n.listeners = append(n.listeners, o.Listener)
	}
	return 0
}

func (m *model) move(kind int64, n, moved *modelNode) int64 {
	parent := n
	if kind == 8 {
		parent = n.parent
	}
	switch {
	case parent == nil:
		return 3
	case moved == m.doc || under(parent, moved):
		return 6
	case kind == 8 && moved == n:
		return 0
	}
	m.leave(moved)
	moved.parent = parent
	at := len(parent.kids)
	if kind == 8 {
		at = slices.Index(parent.kids, n)
	}
	parent.kids = slices.Insert(parent.kids, at, moved)
	return 0
}

func modelRan(h impl.Heap, o impl.Op) (impl.Heap, int64) {
	if !isOp(o) {
		return h, 2
	}
	m := modelOf(h)
	if code := m.run(o); code != 0 {
		return h, code
	}
	return m.heap(), 0
}

// asksOp holds Ran against the model, and answers what comes of it.
func asksOp(t *testing.T, h impl.Heap, o impl.Op) (impl.Heap, int64) {
	t.Helper()
	want, code := modelRan(h, o)
	after, got := impl.Ran(h, o)
	if got != code || !sameHeap(after, want) {
		t.Fatalf("%+v\n%+v:\n%d %+v, want\n%d %+v", h, o, got, after, code, want)
	}
	return after, got
}

// allOps are all ops with these names and fields.
func allOps(names, words []string) []impl.Op {
	var all []impl.Op
	l := impl.Listener{Type: "click", Once: true, Name: "f"}
	for _, a := range names {
		all = append(all, opObject(a), opDrop(a), opDetach(a), opDoc(a), opListen(a, l))
		for _, w := range words {
			all = append(all, opElement(a, w), opUnset(a, w))
		}
		for _, b := range names {
			all = append(all, opAppend(a, b), opBefore(a, b), opFirst(a, b))
			for _, w := range words {
				all = append(all, opSet(a, w, b), opGet(a, w, b))
			}
		}
	}
	return all
}

// storyHeap has three levels in Doc and a tree apart, each node but one with a
// name, and o, an object without a node.
func storyHeap(t *testing.T) impl.Heap {
	return did(t, impl.HeapNew(),
		opDoc("d"), opElement("a", "div"), opElement("b", "p"), opElement("c", "li"), opElement("e", "ul"), opElement("f", "em"), opObject("o"),
		opAppend("d", "a"), opAppend("d", "b"), opAppend("a", "c"), opAppend("e", "f"),
		opSet("a", "x", "o"), opSet("o", "y", "b"))
}

func TestStoryHeap(t *testing.T) {
	h := storyHeap(t)
	want := impl.Heap{Next: 14, Doc: 1,
		Nodes: []impl.Node{
			{Id: 1, Tag: "doc", Kids: []int64{3, 5}, Wrapper: 2},
			{Id: 3, Tag: "div", Parent: 1, Kids: []int64{7}, Wrapper: 4},
			{Id: 5, Tag: "p", Parent: 1, Wrapper: 6},
			{Id: 7, Tag: "li", Parent: 3, Wrapper: 8},
			{Id: 9, Tag: "ul", Kids: []int64{11}, Wrapper: 10},
			{Id: 11, Tag: "em", Parent: 9, Wrapper: 12},
		},
		Objs: []impl.Obj{
			{Id: 2, Node: 1}, {Id: 4, Node: 3, Fields: []impl.Field{{Name: "x", Obj: 13}}}, {Id: 6, Node: 5}, {Id: 8, Node: 7},
			{Id: 10, Node: 9}, {Id: 12, Node: 11}, {Id: 13, Fields: []impl.Field{{Name: "y", Obj: 6}}},
		},
		Globals: []impl.Field{{Name: "a", Obj: 4}, {Name: "b", Obj: 6}, {Name: "c", Obj: 8}, {Name: "d", Obj: 2}, {Name: "e", Obj: 10}, {Name: "f", Obj: 12}, {Name: "o", Obj: 13}},
	}
	if !sameHeap(h, want) {
		t.Errorf("%+v", h)
	}
}

func TestEveryOpOnSomeHeaps(t *testing.T) {
	full := fullHeap()
	full.Globals[0].Obj = 2
	last := impl.HeapNew()
	last.Next = impl.MaxId
	for name, h := range map[string]impl.Heap{"new": impl.HeapNew(), "small": smallHeap(), "story": storyHeap(t), "full": fullHeap(), "full of two": full, "last": last} {
		if !isRight(h) {
			t.Fatal(name)
		}
		names, words := []string{"new", "newer"}, []string{"a", "x", "fielda", "fieldz"}
		for _, g := range h.Globals {
			names = append(names, g.Name)
		}
		for _, o := range allOps(names, words) {
			after, _ := asksOp(t, h, o)
			for _, then := range []impl.Op{opFirst("d", "k"), opDoc("k"), opObject("k"), opBefore("b", "a"), opAppend("d", "c"), opDetach("a")} {
				asksOp(t, after, then)
			}
		}
	}
}

// Long ways through heaps, with few names, so that names are met again, and
// heaps are full at times.
func TestManyOps(t *testing.T) {
	r := rand.New(rand.NewSource(4))
	names := strings.Split("abcdefghi", "")
	seen := map[string]int{}
	for way := range 300 {
		h := impl.HeapNew()
		if way%3 == 1 {
			h = smallHeap()
		}
		if way%30 == 2 {
			h.Next = impl.MaxId - int64(way/30)
		}
		ops := allOps(names[:5+way%5], []string{"u", "v", "w", "x", "y", "z"}[:1+way%6])
		makers := []impl.Op{opElement("a", "p"), opElement("b", "div"), opElement("c", "li"), opDoc("d"), opObject("e"), opListen("a", someListeners[1])}
		for range 150 {
			o := ops[r.Intn(len(ops))]
			if r.Intn(4) == 0 {
				o = makers[r.Intn(len(makers))]
			}
			after, code := asksOp(t, h, o)
			seen[fmt.Sprint(o.Kind, " ", code)]++
			h = after
		}
		if !isRight(h) {
			t.Fatal(h)
		}
	}
	for _, want := range []string{
		"1 0", "1 4", "2 0", "2 4", "3 0", "3 3", "3 4", "4 0", "4 3", "4 4", "5 0", "5 3", "6 0", "6 3", "7 0", "7 3", "7 5", "7 6",
		"8 0", "8 3", "8 5", "8 6", "9 0", "9 3", "9 5", "10 0", "10 4", "11 0", "11 3", "11 4", "11 5", "12 0", "12 3", "12 4", "12 5",
	} {
		if seen[want] == 0 {
			t.Error("never met: kind and code", want)
		}
		delete(seen, want)
	}
	if len(seen) != 0 {
		t.Error("met, but not in the document: kind and code", seen)
	}
}

// Promise 4, without the model.
func TestOpsLeaveRightHeaps(t *testing.T) {
	r := rand.New(rand.NewSource(7))
	ops := allOps(strings.Split("abcdefo", ""), []string{"x", "y"})
	h := storyHeap(t)
	done := 0
	for i := range 20000 {
		if i%200 == 0 {
			h = storyHeap(t)
		}
		o := ops[r.Intn(len(ops))]
		after, code := impl.Ran(h, o)
		if !isRight(after) || code == impl.HpWrong || code == impl.HpForm {
			t.Fatal(h, o, code, after)
		}
		if code != impl.HpDone {
			if !sameHeap(h, after) {
				t.Fatal(o, "is refused, and leaves", after)
			}
			continue
		}
		done++
		standsThere(t, h, after, o)
		isGot(t, after, o)
		h = after
	}
	if done < 5000 {
		t.Error("too few are done", done)
	}
}

// standsThere asks where a node is that was put elsewhere, and that no others
// have another order.
func standsThere(t *testing.T, h, after impl.Heap, o impl.Op) {
	t.Helper()
	name, _ := impl.NodeOf(h, o.Name)
	moved, _ := impl.NodeOf(h, o.Other)
	switch o.Kind {
	case impl.OpDetach:
		moved = name
		if l := impl.Above(after, moved); len(l) != 1 {
			t.Fatal(o, "leaves it below", l)
		}
	case impl.OpAppend:
		l := impl.InOrder(after, name)
		kids := kidsIn(after, name)
		if len(kids) == 0 || kids[len(kids)-1] != moved || !slices.Contains(l, moved) {
			t.Fatal(o, kids, moved)
		}
	case impl.OpBefore:
		kids := kidsIn(after, impl.Above(after, name)[1])
		at := slices.Index(kids, moved)
		if at < 0 || moved != name && (at+1 == len(kids) || kids[at+1] != name) {
			t.Fatal(o, kids, moved, name)
		}
	default:
		moved = 0
	}
	for _, n := range h.Nodes {
		others := func(kids []int64) []int64 {
			return slices.DeleteFunc(slices.Clone(kids), func(id int64) bool { return id == moved })
		}
		if !slices.Equal(others(n.Kids), others(kidsIn(after, n.Id))) {
			t.Fatal(o, "changes the order of others", n.Kids, kidsIn(after, n.Id))
		}
	}
}

func kidsIn(h impl.Heap, id int64) []int64 {
	for _, n := range h.Nodes {
		if n.Id == id {
			return n.Kids
		}
	}
	return nil
}

// isGot asks that what was set is got, and that what was unset or dropped is not.
func isGot(t *testing.T, h impl.Heap, o impl.Op) {
	t.Helper()
	switch o.Kind {
	case impl.OpSet:
		want := global(h, o.Other)
		if id, ok := impl.FieldOf(h, o.Name, o.Word); !ok || id != want {
			t.Fatal(o, id, ok)
		}
		// a name that is there already needs no room
		if got := did(t, h, opGet(o.Name, o.Word, o.Name)); global(got, o.Name) != want {
			t.Fatal(o, "is not got", got)
		}
	case impl.OpUnset:
		if id, ok := impl.FieldOf(h, o.Name, o.Word); ok {
			t.Fatal(o, id)
		}
		refuses(t, "unset", h, opGet(o.Name, o.Word, o.Name), impl.HpNone)
	case impl.OpDrop:
		if id, ok := impl.GlobalOf(h, o.Name); ok {
			t.Fatal(o, id)
		}
	}
}

func TestOpsThatMake(t *testing.T) {
	h := did(t, impl.HeapNew(), opElement("b", "div"))
	want := impl.Heap{Next: 4, Doc: 1,
		Nodes:   []impl.Node{{Id: 1, Tag: "doc"}, {Id: 2, Tag: "div", Wrapper: 3}},
		Objs:    []impl.Obj{{Id: 3, Node: 2}},
		Globals: []impl.Field{{Name: "b", Obj: 3}}}
	if !sameHeap(h, want) {
		t.Errorf("element: %+v", h)
	}
	h = did(t, h, opObject("a"))
	want.Next, want.Objs = 5, append(want.Objs, impl.Obj{Id: 4})
	want.Globals = []impl.Field{{Name: "a", Obj: 4}, {Name: "b", Obj: 3}}
	if !sameHeap(h, want) {
		t.Errorf("object: %+v", h)
	}
	h = did(t, h, opDoc("c"))
	want.Next, want.Objs = 6, append(want.Objs, impl.Obj{Id: 5, Node: 1})
	want.Nodes[0].Wrapper = 5
	want.Globals = append(want.Globals, impl.Field{Name: "c", Obj: 5})
	if !sameHeap(h, want) {
		t.Errorf("doc: %+v", h)
	}
	h = did(t, h, opDoc("b"))
	want.Globals[1].Obj = 5
	if !sameHeap(h, want) {
		t.Errorf("doc, with a wrapper, in the place of another one: %+v", h)
	}
	h = did(t, h, opElement("a", "a"))
	want.Next = 8
	want.Nodes, want.Objs = append(want.Nodes, impl.Node{Id: 6, Tag: "a", Wrapper: 7}), append(want.Objs, impl.Obj{Id: 7, Node: 6})
	want.Globals[0].Obj = 7
	if !sameHeap(h, want) {
		t.Errorf("element, in the place of another one: %+v", h)
	}
}

// Ids are new even where those of things that are there lie far apart.
func TestNewIdsComeFromNext(t *testing.T) {
	h := smallHeap()
	h.Next = 500
	h = did(t, h, opElement("n", "a"), opObject("m"))
	if h.Next != 503 || h.Nodes[5].Id != 500 || h.Objs[4].Id != 501 || h.Objs[5].Id != 502 || global(h, "n") != 501 || global(h, "m") != 502 {
		t.Errorf("%+v", h)
	}
}

func TestFieldsOfObjects(t *testing.T) {
	h := storyHeap(t)
	h = did(t, h, opSet("o", "z", "a"), opSet("o", "x", "o"), opSet("o", "y", "c"))
	o := h.Objs[6]
	if !slices.Equal(o.Fields, []impl.Field{{Name: "x", Obj: 13}, {Name: "y", Obj: 8}, {Name: "z", Obj: 4}}) {
		t.Errorf("%+v", h)
	}
	h = did(t, h, opGet("o", "z", "b"), opGet("a", "x", "k"))
	if global(h, "b") != 4 || global(h, "k") != 13 || !slices.Equal(h.Objs[6].Fields, o.Fields) {
		t.Errorf("%+v", h)
	}
	h = did(t, h, opUnset("k", "y"))
	if !slices.Equal(h.Objs[6].Fields, []impl.Field{{Name: "x", Obj: 13}, {Name: "z", Obj: 4}}) {
		t.Errorf("%+v", h)
	}
	refuses(t, "unset twice", h, opUnset("o", "y"), impl.HpNone)
	refuses(t, "got", h, opGet("o", "y", "b"), impl.HpNone)
	h = did(t, h, opGet("o", "x", "o"), opDrop("k"), opDrop("o"))
	if global(h, "k") != 0 || global(h, "o") != 0 || len(h.Objs) != 7 || len(h.Globals) != 6 {
		t.Errorf("%+v", h)
	}
	refuses(t, "dropped", h, opDrop("o"), impl.HpNone)
	h = did(t, h, opGet("a", "x", "o"))
	if global(h, "o") != 13 {
		t.Errorf("called anew: %+v", h)
	}
}

// In storyHeap Doc has div (with li) and p; ul has em, apart from it.
func TestNodesPutElsewhere(t *testing.T) {
	apart := func(h impl.Heap) string {
		tree, _ := impl.TreeOf(h, 9)
		return impl.TreeText(tree)
	}
	const doc, ul = "<doc><div><li></li></div><p></p></doc>", "<ul><em></em></ul>"
	for _, c := range []struct {
		name      string
		ops       []impl.Op
		text, too string
	}{
		{"nothing", nil, doc, ul},
		{"appended where it is the last one", []impl.Op{opAppend("d", "b")}, doc, ul},
		{"appended where it is the first one", []impl.Op{opAppend("d", "a")}, "<doc><p></p><div><li></li></div></doc>", ul},
		{"appended lower", []impl.Op{opAppend("c", "b")}, "<doc><div><li><p></p></li></div></doc>", ul},
		{"appended behind others", []impl.Op{opAppend("a", "b")}, "<doc><div><li></li><p></p></div></doc>", ul},
		{"appended higher", []impl.Op{opAppend("d", "c")}, "<doc><div></div><p></p><li></li></doc>", ul},
		{"appended with all below it", []impl.Op{opAppend("b", "a")}, "<doc><p><div><li></li></div></p></doc>", ul},
		{"appended to one apart", []impl.Op{opAppend("f", "a")}, "<doc><p></p></doc>", "<ul><em><div><li></li></div></em></ul>"},
		{"appended from apart", []impl.Op{opAppend("a", "e")}, "<doc><div><li></li><ul><em></em></ul></div><p></p></doc>", ul},
		{"put ahead of the first", []impl.Op{opBefore("a", "b")}, "<doc><p></p><div><li></li></div></doc>", ul},
		{"put ahead of the next one", []impl.Op{opBefore("b", "a")}, doc, ul},
		{"put ahead from apart", []impl.Op{opBefore("b", "e")}, "<doc><div><li></li></div><ul><em></em></ul><p></p></doc>", ul},
		{"put ahead, below another one", []impl.Op{opBefore("c", "b")}, "<doc><div><p></p><li></li></div></doc>", ul},
		{"put ahead of its parent", []impl.Op{opBefore("a", "c")}, "<doc><li></li><div></div><p></p></doc>", ul},
		{"put ahead in one apart", []impl.Op{opBefore("f", "a")}, "<doc><p></p></doc>", "<ul><div><li></li></div><em></em></ul>"},
		{"put ahead of itself", []impl.Op{opBefore("a", "a")}, doc, ul},
		{"put ahead of itself, the last one", []impl.Op{opBefore("b", "b")}, doc, ul},
		{"detached", []impl.Op{opDetach("a")}, "<doc><p></p></doc>", ul},
		{"detached from apart", []impl.Op{opDetach("f")}, doc, "<ul></ul>"},
		{"detached and back", []impl.Op{opDetach("a"), opAppend("d", "a"), opBefore("a", "b"), opAppend("d", "b")}, doc, ul},
		{"three about", []impl.Op{opAppend("d", "c"), opBefore("a", "b"), opBefore("b", "c"), opBefore("c", "a")}, "<doc><div></div><li></li><p></p></doc>", ul},
	} {
		h := did(t, storyHeap(t), c.ops...)
		if docText(h) != c.text || apart(h) != c.too {
			t.Error(c.name, docText(h), apart(h))
		}
	}
}

// A node that is put ahead of itself is all there is to do, by whatever name.
func TestPutAheadOfItself(t *testing.T) {
	h := did(t, storyHeap(t), opFirst("d", "q"))
	for _, o := range []impl.Op{opBefore("a", "a"), opBefore("a", "q"), opBefore("q", "a"), opBefore("b", "b"), opBefore("c", "c"), opBefore("f", "f")} {
		if after := did(t, h, o); !sameHeap(after, h) {
			t.Errorf("%v: %+v", o, after)
		}
	}
	refuses(t, "without a parent", h, opBefore("e", "e"), impl.HpNone)
	refuses(t, "Doc", h, opBefore("d", "d"), impl.HpNone)
	refuses(t, "without a node", h, opBefore("o", "o"), impl.HpKind)
	refuses(t, "without an object", h, opBefore("z", "z"), impl.HpNone)
}

func TestWrappersThatAreThere(t *testing.T) {
	h := smallHeap() // 6, the first of Doc's, has the wrapper 7; 8, the first of 6's, has none
	after := did(t, h, opFirst("d", "k"))
	if global(after, "k") != 7 || after.Next != h.Next || len(after.Objs) != len(h.Objs) {
		t.Errorf("%+v", after)
	}
	after = did(t, h, opFirst("ea", "k"))
	if global(after, "k") != 11 || after.Next != 12 || len(after.Objs) != 5 || after.Nodes[3].Wrapper != 11 || after.Objs[4].Node != 8 {
		t.Errorf("%+v", after)
	}
	again := did(t, after, opFirst("ea", "k"), opFirst("ea", "d"))
	after.Globals[0].Obj = 11
	if !sameHeap(after, again) {
		t.Errorf("%+v", again)
	}
	after = did(t, h, opDoc("k"))
	if global(after, "k") != 2 || after.Next != h.Next {
		t.Errorf("%+v", after)
	}
	first := did(t, h, opFirst("d", "d")) // its own name
	if global(first, "d") != 7 {
		t.Errorf("%+v", first)
	}
	bare := did(t, impl.HeapNew(), opDoc("k"))
	if global(bare, "k") != 2 || bare.Nodes[0].Wrapper != 2 || bare.Objs[0].Node != 1 || bare.Next != 3 {
		t.Errorf("%+v", bare)
	}
}

func TestListenersStandBehindAll(t *testing.T) {
	h := storyHeap(t)
	var want []impl.Listener
	for i := range int64(4) {
		l := impl.Listener{Type: "click", Capture: i%2 == 0, Once: i > 1, Stop: i % 3, Name: string(rune('z' - i))}
		want = append(want, l)
		h = did(t, h, opListen("a", l))
		if !slices.Equal(h.Nodes[1].Listeners, want) {
			t.Errorf("%+v", h)
		}
	}
	refuses(t, "five", h, opListen("a", want[0]), impl.HpFull)
	did(t, h, opListen("b", want[0]), opListen("d", want[0]))
	same := did(t, storyHeap(t), opListen("a", want[0]), opListen("a", want[0]))
	if len(same.Nodes[1].Listeners) != 2 {
		t.Errorf("the same twice: %+v", same)
	}
}

func TestRefusals(t *testing.T) {
	l := impl.Listener{Type: "click", Name: "f"}
	h := storyHeap(t)
	for _, c := range []struct {
		name string
		op   impl.Op
		code int64
	}{
		{"no such Kind", impl.Op{Name: "a"}, impl.HpForm},
		{"Kind 13", impl.Op{Kind: 13, Name: "a"}, impl.HpForm},
		{"nothing", impl.Op{}, impl.HpForm},
		{"a Name that is none", opObject("A"), impl.HpForm},
		{"a Tag that is none", opElement("k", "Div"), impl.HpForm},
		{"no Tag", opElement("k", ""), impl.HpForm},
		{"no Word", opSet("a", "", "b"), impl.HpForm},
		{"no Other", opAppend("a", ""), impl.HpForm},
		{"an Other that is none", opGet("a", "x", "b."), impl.HpForm},
		{"no listener", opListen("a", impl.Listener{}), impl.HpForm},
		{"Other, which is not named", impl.Op{Kind: impl.OpElement, Name: "k", Word: "p", Other: "a"}, impl.HpForm},
		{"Word, which is not named", impl.Op{Kind: impl.OpAppend, Name: "d", Other: "a", Word: "p"}, impl.HpForm},
		{"a listener that is not named", impl.Op{Kind: impl.OpDetach, Name: "a", Listener: l}, impl.HpForm},
		{"only Stop, which is not named", impl.Op{Kind: impl.OpObject, Name: "k", Listener: impl.Listener{Stop: 1}}, impl.HpForm},

		{"set: no Name", opSet("z", "x", "b"), impl.HpNone},
		{"set: no Other", opSet("a", "x", "z"), impl.HpNone},
		{"get: no Name", opGet("z", "x", "b"), impl.HpNone},
		{"get: no field", opGet("a", "y", "b"), impl.HpNone},
		{"unset: no Name", opUnset("z", "x"), impl.HpNone},
		{"unset: no field", opUnset("a", "y"), impl.HpNone},
		{"drop: no Name", opDrop("z"), impl.HpNone},
		{"detach: no Name", opDetach("z"), impl.HpNone},
		{"detach: no node", opDetach("o"), impl.HpKind},
		{"detach: no parent", opDetach("e"), impl.HpNone},
		{"detach: Doc", opDetach("d"), impl.HpNone},
		{"listen: no Name", opListen("z", l), impl.HpNone},
		{"listen: no node", opListen("o", l), impl.HpKind},
		{"first: no Name", opFirst("z", "a"), impl.HpNone},
		{"first: no node", opFirst("o", "a"), impl.HpKind},
		{"first: no kids", opFirst("c", "a"), impl.HpNone},
		{"append: no Name", opAppend("z", "a"), impl.HpNone},
		{"append: no Other", opAppend("a", "z"), impl.HpNone},
		{"append: Name has no node", opAppend("o", "a"), impl.HpKind},
		{"append: Other has no node", opAppend("a", "o"), impl.HpKind},
		{"append: Doc", opAppend("a", "d"), impl.HpLoop},
		{"append: Doc to one apart from it", opAppend("f", "d"), impl.HpLoop},
		{"append: Doc to Doc", opAppend("d", "d"), impl.HpLoop},
		{"append: to itself", opAppend("a", "a"), impl.HpLoop},
		{"append: to itself, apart", opAppend("e", "e"), impl.HpLoop},
		{"append: to its kid", opAppend("c", "a"), impl.HpLoop},
		{"append: to its kid, apart", opAppend("f", "e"), impl.HpLoop},
		{"before: no Name", opBefore("z", "a"), impl.HpNone},
		{"before: no Other", opBefore("a", "z"), impl.HpNone},
		{"before: Name has no node", opBefore("o", "a"), impl.HpKind},
		{"before: Other has no node", opBefore("a", "o"), impl.HpKind},
		{"before: no parent", opBefore("e", "a"), impl.HpNone},
		{"before: no parent, Doc", opBefore("d", "a"), impl.HpNone},
		{"before: Doc", opBefore("a", "d"), impl.HpLoop},
		{"before: Doc, apart from it", opBefore("f", "d"), impl.HpLoop},
		{"before: ahead of its kid", opBefore("c", "a"), impl.HpLoop},
		{"before: ahead of its kid, apart", opBefore("f", "e"), impl.HpLoop},
	} {
		refuses(t, c.name, h, c.op, c.code)
	}
	deep := did(t, h, opAppend("c", "b"))
	refuses(t, "append: far below itself", deep, opAppend("b", "a"), impl.HpLoop)
	refuses(t, "before: far below itself", deep, opBefore("b", "a"), impl.HpLoop)
}

// Where two refusals hold at once the one that the document tells first is told.
func TestWhichRefusalComesFirst(t *testing.T) {
	l := impl.Listener{Type: "click", Name: "f"}
	h := did(t, storyHeap(t), opObject("p")) // no room for one name more
	for _, field := range []string{"va", "vb", "vc", "vd"} {
		h = did(t, h, opSet("a", field, "b")) // nor for one field more of a
	}
	for range 4 {
		h = did(t, h, opListen("a", l)) // nor for one listener more
	}
	for len(h.Objs) < impl.MaxObjs {
		h = did(t, h, opObject("p")) // nor for an object
	}
	for _, c := range []struct {
		name string
		op   impl.Op
		code int64
	}{
		{"form, then none", impl.Op{Kind: impl.OpDrop, Name: "z", Word: "x"}, impl.HpForm},
		{"form, then kind", impl.Op{Kind: impl.OpDetach, Name: "o", Other: "a"}, impl.HpForm},
		{"form, then full", impl.Op{Kind: impl.OpObject, Name: "new", Other: "a"}, impl.HpForm},
		{"form, then full of listeners", opListen("a", impl.Listener{Type: "click"}), impl.HpForm},
		{"form, then loop", impl.Op{Kind: impl.OpAppend, Name: "a", Other: "d", Word: "x"}, impl.HpForm},
		{"none of Other, then kind of Name", opAppend("o", "z"), impl.HpNone},
		{"none of Name, then kind of Other", opAppend("z", "o"), impl.HpNone},
		{"none of Other, then kind of Name: before", opBefore("o", "z"), impl.HpNone},
		{"none of Name, then kind of Other: before", opBefore("z", "o"), impl.HpNone},
		{"none, then full: set", opSet("a", "new", "z"), impl.HpNone},
		{"none, then full: get", opGet("a", "none", "new"), impl.HpNone},
		{"none, then full: get of no name", opGet("z", "x", "new"), impl.HpNone},
		{"none, then full: first", opFirst("c", "new"), impl.HpNone},
		{"none, then full: listen", opListen("z", l), impl.HpNone},
		{"kind, then full: first", opFirst("o", "new"), impl.HpKind},
		{"kind, then full: listen", opListen("o", l), impl.HpKind},
		{"kind of Name, then loop: append Doc", opAppend("o", "d"), impl.HpKind},
		{"kind of Name, then loop: put Doc ahead", opBefore("o", "d"), impl.HpKind},
		{"kind of Other, then no parent", opBefore("e", "o"), impl.HpKind},
		{"kind of Other, then no parent of Doc", opBefore("d", "o"), impl.HpKind},
		{"no parent, then loop: Doc", opBefore("e", "d"), impl.HpNone},
		{"no parent, then loop: both are Doc", opBefore("d", "d"), impl.HpNone},
		{"no parent, then both are one", opBefore("e", "e"), impl.HpNone},
		{"full of fields", opSet("a", "new", "b"), impl.HpFull},
		{"full of names: get", opGet("a", "x", "new"), impl.HpFull},
		{"full of names: first", opFirst("d", "new"), impl.HpFull},
		{"full of names: doc", opDoc("new"), impl.HpFull},
		{"full of listeners", opListen("a", l), impl.HpFull},
	} {
		refuses(t, c.name, h, c.op, c.code)
	}
	did(t, h, opSet("a", "va", "o"), opGet("a", "x", "b"), opFirst("d", "e"), opDoc("f"), opDrop("p"), opDoc("new"))
}

// Each row meets a limit exactly with its first ops, and passes it by one with
// the last.
func TestLimitsOfOps(t *testing.T) {
	var globals, fields, nodes, objs, both []impl.Op
	for i := range 9 {
		globals = append(globals, opDoc("n"+string(rune('a'+i))))
	}
	fields = append(fields, opObject("a"))
	for i := range 6 {
		fields = append(fields, opSet("a", string(rune('z'-i)), "a"))
	}
	for range 17 {
		objs = append(objs, opObject("a"))
	}
	for range 16 {
		nodes = append(nodes, opElement("a", "p")) // with Doc 17
	}
	both = append(both, opDoc("d"))
	for range 16 {
		both = append(both, opElement("a", "p"))
	}
	for name, c := range map[string]struct {
		ops  []impl.Op
		next int64
		then []impl.Op
	}{
		"globals":           {globals, 3, []impl.Op{opDoc("na"), opObject("nh"), opDrop("nc"), opDoc("new")}},
		"fields":            {fields, 3, []impl.Op{opSet("a", "z", "a"), opUnset("a", "x"), opSet("a", "b", "a")}},
		"objects":           {objs, 18, []impl.Op{opSet("a", "x", "a"), opGet("a", "x", "b"), opDrop("a")}},
		"nodes":             {nodes, 32, []impl.Op{opObject("b"), opDrop("a")}},
		"nodes and objects": {both, 33, []impl.Op{opAppend("d", "a"), opFirst("d", "f"), opBefore("f", "a"), opDetach("f"), opDoc("new")}},
	} {
		most := len(c.ops) - 1
		h := did(t, impl.HeapNew(), c.ops[:most]...)
		if h.Next != c.next {
			t.Error(name, h.Next)
		}
		refuses(t, name, h, c.ops[most], impl.HpFull)
		did(t, h, c.then...)
	}
}

// A thing that needs an object is refused whole, its node too.
func TestNoRoomForAnObject(t *testing.T) {
	h := smallHeap()
	for len(h.Objs) < 16 {
		h = did(t, h, opObject("e"))
	}
	refuses(t, "object", h, opObject("e"), impl.HpFull)
	refuses(t, "element", h, opElement("e", "p"), impl.HpFull)
	refuses(t, "first, without a wrapper", h, opFirst("ea", "e"), impl.HpFull)
	did(t, h, opFirst("d", "e"), opDoc("e"))
	bare := impl.HeapNew()
	for len(bare.Objs) < 16 {
		bare = did(t, bare, opObject("e"))
	}
	refuses(t, "doc, without a wrapper", bare, opDoc("e"), impl.HpFull)
}

func TestLimitsOfIds(t *testing.T) {
	for _, c := range []struct {
		next  int64
		op    impl.Op
		after int64 // 0: refused
	}{
		{999999999, opObject("a"), 1000000000},
		{1000000000, opObject("a"), 0},
		{999999998, opElement("a", "p"), 1000000000},
		{999999999, opElement("a", "p"), 0},
		{1000000000, opElement("a", "p"), 0},
		{999999999, opDoc("a"), 1000000000},
		{1000000000, opDoc("a"), 0},
		{1000000000, opFirst("ea", "a"), 0},
		{999999999, opFirst("ea", "a"), 1000000000},
		{1000000000, opFirst("d", "a"), 1000000000},
		{1000000000, opSet("d", "new", "e"), 1000000000},
		{1000000000, opDrop("d"), 1000000000},
	} {
		h := impl.HeapNew()
		if c.op.Kind != impl.OpDoc {
			h = smallHeap()
		}
		h.Next = c.next
		if c.after == 0 {
			refuses(t, fmt.Sprint(c.next), h, c.op, impl.HpFull)
		} else if after := did(t, h, c.op); after.Next != c.after {
			t.Error(c, after)
		}
	}
}

func TestOpsOnHeapsThatAreNotRight(t *testing.T) {
	defer endsSoon("ops on heaps that are not right")()
	ops := append(allOps([]string{"d", "e", "ea", "z"}, []string{"x"}), impl.Op{}, impl.Op{Kind: 13, Name: "a"}, opObject("A"))
	heapsNotRight(func(name string, h impl.Heap) {
		for _, o := range ops {
			if after, code := impl.Ran(h, o); code != impl.HpWrong || !sameHeap(after, impl.Heap{}) {
				t.Error(name, o, code, after)
			}
		}
		for _, l := range [][]impl.Op{nil, ops[:1], ops[:100], {{}}} {
			if after, codes := impl.RanAll(h, l); len(codes) != 0 || !sameHeap(after, impl.Heap{}) {
				t.Error(name, len(l), codes, after)
			}
		}
	})
}

func TestRanAll(t *testing.T) {
	h := storyHeap(t)
	after, codes := impl.RanAll(h, []impl.Op{
		opDetach("b"), opDetach("b"), {}, opAppend("c", "b"), opAppend("b", "a"), opAppend("o", "a"), opSet("b", "x", "a"), opGet("b", "x", "b"), opDrop("z"),
	})
	if !slices.Equal(codes, []int64{0, 3, 2, 0, 6, 5, 0, 0, 3}) {
		t.Error(codes)
	}
	want := did(t, h, opDetach("b"), opAppend("c", "b"), opSet("b", "x", "a"), opGet("b", "x", "b"))
	if !sameHeap(after, want) || docText(after) != "<doc><div><li><p></p></li></div></doc>" {
		t.Error(after)
	}
	if after, codes := impl.RanAll(h, nil); len(codes) != 0 || !sameHeap(after, h) {
		t.Error(codes, after)
	}
	if after, codes := impl.RanAll(h, []impl.Op{{}, opDrop("z")}); !slices.Equal(codes, []int64{2, 3}) || !sameHeap(after, h) {
		t.Error(codes, after)
	}
}

func TestHundredOps(t *testing.T) {
	r := rand.New(rand.NewSource(11))
	ops := append(allOps(strings.Split("abcdeo", ""), []string{"x", "y"}), impl.Op{}, impl.Op{Kind: 2})
	for range 50 {
		var l []impl.Op
		h := storyHeap(t)
		var want []int64
		for range 100 {
			o := ops[r.Intn(len(ops))]
			after, code := impl.Ran(h, o)
			h = after
			l, want = append(l, o), append(want, code)
		}
		after, codes := impl.RanAll(storyHeap(t), l)
		if !slices.Equal(codes, want) || !sameHeap(after, h) {
			t.Fatal(l, codes, want)
		}
		l = append(l, opObject("a"))
		if after, codes := impl.RanAll(storyHeap(t), l); len(codes) != 0 || !sameHeap(after, impl.Heap{}) {
			t.Fatal("101 ops", codes, after)
		}
	}
}

// Answers share nothing with the heap that was given, and it stays as it was,
// the room behind its lists too.
func TestOpsAreNewMemory(t *testing.T) {
	full := fullHeap()
	full.Next = 1000000000
	for name, given := range map[string]impl.Heap{"small": smallHeap(), "story": storyHeap(t), "full": full, "new": impl.HeapNew()} {
		h := sparedHeap(given)
		was := shown(h)
		names := []string{"new"}
		for _, g := range h.Globals {
			names = append(names, g.Name)
		}
		ops := append(allOps(names, []string{"a", "x", "fielda"}), impl.Op{}, opObject("A"))
		for _, o := range ops {
			after, code := impl.Ran(h, o)
			again, code2 := impl.Ran(h, o)
			if code != code2 || !sameHeap(after, again) {
				t.Fatal(name, o, "not the same answers", after, again)
			}
			sharesNothing(t, []any{after, again}, []any{h})
			two, codes := impl.RanAll(h, []impl.Op{o, opDoc("q")})
			sharesNothing(t, []any{two, codes}, []any{h})
		}
		for _, l := range [][]impl.Op{nil, {{}}, {opDrop("z"), {}}} {
			same, codes := impl.RanAll(h, l)
			sharesNothing(t, []any{same, codes}, []any{h, l})
		}
		if shown(h) != was {
			t.Fatal(name, "written into", h)
		}
	}
}

// The list of ops stays as it was, too.
func TestListsOfOpsStayAsTheyAre(t *testing.T) {
	l := withRoom([]impl.Op{opDoc("a"), {}, opElement("b", "p"), opAppend("a", "b")}, opDrop("a"))
	was := slices.Clone(l[:cap(l)])
	impl.RanAll(impl.HeapNew(), l)
	if !slices.Equal(l[:cap(l)], was) {
		t.Error(l[:cap(l)])
	}
}
