package tests

import (
	"fmt"
	"reflect"
	"strings"
	"testing"

	"loop.example/g00376/impl"
)

// smallHeap has one of everything: nodes in three levels and one apart from
// them, objects with and without a node, fields, listeners.
func smallHeap() impl.Heap {
	return impl.Heap{
		Next: 11,
		Doc:  1,
		Nodes: []impl.Node{
			{Id: 1, Tag: "doc", Kids: []int64{6, 3}, Wrapper: 2},
			{Id: 3, Tag: "p", Parent: 1, Listeners: []impl.Listener{{Type: "click", Name: "f"}, {Type: "key", Capture: true, Once: true, Stop: 2, Name: "g"}}},
			{Id: 6, Tag: "div", Parent: 1, Kids: []int64{8}, Wrapper: 7},
			{Id: 8, Tag: "p", Parent: 6},
			{Id: 9, Tag: "li"},
		},
		Objs: []impl.Obj{
			{Id: 2, Node: 1, Fields: []impl.Field{{Name: "a", Obj: 7}, {Name: "ab", Obj: 2}, {Name: "b", Obj: 4}}},
			{Id: 4, Fields: []impl.Field{{Name: "x", Obj: 5}}},
			{Id: 5},
			{Id: 7, Node: 6},
		},
		Globals: []impl.Field{{Name: "d", Obj: 2}, {Name: "e", Obj: 4}, {Name: "ea", Obj: 7}, {Name: "z", Obj: 4}},
	}
}

// fullHeap meets every limit exactly.
func fullHeap() impl.Heap {
	h := impl.Heap{Next: 1000000000, Doc: 1}
	for i := range int64(16) {
		n := impl.Node{Id: 2*i + 1, Tag: "abcdef", Wrapper: 2*i + 2}
		o := impl.Obj{Id: 2*i + 2, Node: 2*i + 1}
		if i == 15 {
			o.Id, n.Wrapper = 999999999, 999999999
		}
		if i > 0 {
			n.Parent = 1
			h.Nodes[0].Kids = append(h.Nodes[0].Kids, n.Id)
		}
		for j := range int64(4) {
			n.Listeners = append(n.Listeners, impl.Listener{Type: "zyxwvu", Capture: j%2 == 0, Once: j > 1, Stop: j % 3, Name: "abcdef"})
		}
		for j := range 5 {
			o.Fields = append(o.Fields, impl.Field{Name: "field" + string(rune('a'+j)), Obj: 2})
		}
		h.Nodes = append(h.Nodes, n)
		h.Objs = append(h.Objs, o)
	}
	for j := range 8 {
		h.Globals = append(h.Globals, impl.Field{Name: "globa" + string(rune('a'+j)), Obj: 999999999})
	}
	return h
}

// isRight is the document's rule, clause by clause, without any index.
func isRight(h impl.Heap) bool {
	node := func(id int64) *impl.Node {
		for i := range h.Nodes {
			if h.Nodes[i].Id == id {
				return &h.Nodes[i]
			}
		}
		return nil
	}
	obj := func(id int64) *impl.Obj {
		for i := range h.Objs {
			if h.Objs[i].Id == id {
				return &h.Objs[i]
			}
		}
		return nil
	}
	has := func(l []int64, id int64) int {
		n := 0
		for _, x := range l {
			if x == id {
				n++
			}
		}
		return n
	}
	fields := func(l []impl.Field, most int) bool {
		for i, f := range l {
			if !isName(f.Name) || obj(f.Obj) == nil || i > 0 && l[i-1].Name >= f.Name {
				return false
			}
		}
		return len(l) <= most
	}
	if h.Next < 1 || h.Next > 1000000000 || len(h.Nodes) > 16 || len(h.Objs) > 16 || !fields(h.Globals, 8) {
		return false
	}
	for i, n := range h.Nodes {
		if n.Id < 1 || n.Id > h.Next-1 || i > 0 && h.Nodes[i-1].Id >= n.Id || obj(n.Id) != nil || !isName(n.Tag) || len(n.Listeners) > 4 {
			return false
		}
		for _, kid := range n.Kids {
			if node(kid) == nil || node(kid).Parent != n.Id || has(n.Kids, kid) != 1 {
				return false
			}
		}
		if n.Parent != 0 && (node(n.Parent) == nil || has(node(n.Parent).Kids, n.Id) != 1) {
			return false
		}
		seen := map[int64]bool{}
		for id := n.Id; id != 0; id = node(id).Parent {
			if node(id) == nil || seen[id] {
				return false
			}
			seen[id] = true
		}
		if n.Wrapper != 0 && (obj(n.Wrapper) == nil || obj(n.Wrapper).Node != n.Id) {
			return false
		}
		for _, l := range n.Listeners {
			if !isName(l.Type) || !isName(l.Name) || l.Stop < 0 || l.Stop > 2 {
				return false
			}
		}
	}
	for i, o := range h.Objs {
		if o.Id < 1 || o.Id > h.Next-1 || i > 0 && h.Objs[i-1].Id >= o.Id || !fields(o.Fields, 5) {
			return false
		}
		if o.Node != 0 && (node(o.Node) == nil || node(o.Node).Wrapper != o.Id) {
			return false
		}
	}
	return node(h.Doc) != nil && node(h.Doc).Parent == 0
}

func isName(s string) bool {
	return s != "" && len(s) <= 6 && strings.Trim(s, "abcdefghijklmnopqrstuvwxyz") == ""
}

func listeners(n int) []impl.Listener {
	var l []impl.Listener
	for range n {
		l = append(l, impl.Listener{Type: "t", Name: "n"})
	}
	return l
}

func fieldsTo(obj int64, n int) []impl.Field {
	var l []impl.Field
	for i := range n {
		l = append(l, impl.Field{Name: string(rune('a' + i)), Obj: obj})
	}
	return l
}

func TestConstantsOfHeaps(t *testing.T) {
	if impl.MaxNodes != 16 || impl.MaxObjs != 16 || impl.MaxFields != 5 || impl.MaxGlobals != 8 || impl.MaxListeners != 4 || impl.MaxId != 1000000000 {
		t.Error("not the document's")
	}
}

func TestHeapNew(t *testing.T) {
	want := impl.Heap{Next: 2, Doc: 1, Nodes: []impl.Node{{Id: 1, Tag: "doc"}}}
	h := impl.HeapNew()
	if !reflect.DeepEqual(h, want) || !impl.HeapOk(h) {
		t.Error(h)
	}
	h.Nodes[0].Tag = "x"
	if again := impl.HeapNew(); !reflect.DeepEqual(again, want) {
		t.Error("two answers share memory", again)
	}
}

func TestHeapsThatAreRight(t *testing.T) {
	alone := impl.HeapNew()
	alone.Next = impl.MaxId
	last := impl.Heap{Next: impl.MaxId, Doc: impl.MaxId - 1, Nodes: []impl.Node{{Id: impl.MaxId - 1, Tag: "a"}}}
	deep := impl.Heap{Next: 17, Doc: 16}
	for i := range int64(16) {
		n := impl.Node{Id: i + 1, Tag: "a", Parent: i + 2}
		if i > 0 {
			n.Kids = []int64{i}
		}
		if i == 15 {
			n.Parent = 0
		}
		deep.Nodes = append(deep.Nodes, n)
	}
	unheld := impl.HeapNew()
	unheld.Next, unheld.Objs = 3, []impl.Obj{{Id: 2, Fields: []impl.Field{{Name: "me", Obj: 2}}}}
	for name, h := range map[string]impl.Heap{
		"new": impl.HeapNew(), "small": smallHeap(), "full": fullHeap(), "the greatest Next": alone, "the greatest Id": last,
		"16 nodes deep, Doc the last": deep, "an object that nobody but itself holds": unheld,
	} {
		if !impl.HeapOk(h) || !isRight(h) {
			t.Error(name, impl.HeapOk(h), isRight(h))
		}
	}
}

// Each row passes one limit, by one, of a heap that meets it.
func TestLimitsOfHeaps(t *testing.T) {
	for _, c := range []struct {
		name      string
		met, past func(h *impl.Heap)
	}{
		{"Next above MaxId", func(h *impl.Heap) { h.Next = 1000000000 }, func(h *impl.Heap) { h.Next = 1000000001 }},
		{"an object's Id is Next", func(h *impl.Heap) { h.Next = 1000000000 }, func(h *impl.Heap) { h.Next = 999999999 }},
		{"Nodes",
			func(h *impl.Heap) { h.Nodes[0].Kids, h.Nodes[15].Parent = h.Nodes[0].Kids[:14], 0 },
			func(h *impl.Heap) { h.Nodes = append(h.Nodes, impl.Node{Id: 101, Tag: "a"}) }},
		{"Objs",
			func(h *impl.Heap) { h.Objs[0].Fields = nil },
			func(h *impl.Heap) {
				h.Objs = append(h.Objs[:15:15], impl.Obj{Id: 101}, h.Objs[15])
			}},
		{"Globals", func(h *impl.Heap) { h.Globals = fieldsTo(4, 8) }, func(h *impl.Heap) { h.Globals = fieldsTo(4, 9) }},
		{"Fields", func(h *impl.Heap) { h.Objs[9].Fields = fieldsTo(4, 5) }, func(h *impl.Heap) { h.Objs[9].Fields = fieldsTo(4, 6) }},
		{"Listeners", func(h *impl.Heap) { h.Nodes[9].Listeners = listeners(4) }, func(h *impl.Heap) { h.Nodes[9].Listeners = listeners(5) }},
		{"Stop", func(h *impl.Heap) { h.Nodes[9].Listeners[3].Stop = 2 }, func(h *impl.Heap) { h.Nodes[9].Listeners[3].Stop = 3 }},
		{"Stop below 0", func(h *impl.Heap) { h.Nodes[9].Listeners[3].Stop = 0 }, func(h *impl.Heap) { h.Nodes[9].Listeners[3].Stop = -1 }},
		{"a Tag's letters", func(h *impl.Heap) { h.Nodes[9].Tag = "abcdef" }, func(h *impl.Heap) { h.Nodes[9].Tag = "abcdefg" }},
		{"a field's letters", func(h *impl.Heap) { h.Objs[9].Fields[4].Name = "zzzzzz" }, func(h *impl.Heap) { h.Objs[9].Fields[4].Name = "zzzzzzz" }},
		{"a global's letters", func(h *impl.Heap) { h.Globals[7].Name = "zzzzzz" }, func(h *impl.Heap) { h.Globals[7].Name = "zzzzzzz" }},
		{"a Type's letters", func(h *impl.Heap) { h.Nodes[9].Listeners[3].Type = "zzzzzz" }, func(h *impl.Heap) { h.Nodes[9].Listeners[3].Type = "zzzzzzz" }},
		{"a listener's letters", func(h *impl.Heap) { h.Nodes[9].Listeners[3].Name = "zzzzzz" }, func(h *impl.Heap) { h.Nodes[9].Listeners[3].Name = "zzzzzzz" }},
	} {
		h := fullHeap()
		c.met(&h)
		if !impl.HeapOk(h) {
			t.Error(c.name, "is met, and refused")
		}
		c.past(&h)
		if impl.HeapOk(h) {
			t.Error(c.name, "is passed, and accepted")
		}
	}
	h := fullHeap()
	h.Next = 1000000001
	if _, ok := impl.GlobalOf(h, "globaa"); ok {
		t.Error("told of a heap that is not right")
	}
}

// brokenClauses breaks one clause of smallHeap a row.
var brokenClauses = []struct {
	name  string
	wrong func(h *impl.Heap)
}{
	{"nothing at all", func(h *impl.Heap) { *h = impl.Heap{} }},
	{"Next 0", func(h *impl.Heap) { h.Next = 0 }},
	{"Next below 0", func(h *impl.Heap) { h.Next = -1 }},
	{"Next 1, no nodes", func(h *impl.Heap) { *h = impl.Heap{Next: 1, Doc: 1} }},
	{"Next is the last Id", func(h *impl.Heap) { h.Next = 9 }},
	{"a node's Id 0", func(h *impl.Heap) { *h = impl.Heap{Next: 1, Nodes: []impl.Node{{Tag: "a"}}} }},
	{"a node's Id below 0", func(h *impl.Heap) { *h = impl.Heap{Next: 1, Doc: -1, Nodes: []impl.Node{{Id: -1, Tag: "a"}}} }},
	{"an object's Id 0", func(h *impl.Heap) { h.Objs = append([]impl.Obj{{}}, h.Objs...) }},
	{"an object's Id below 0", func(h *impl.Heap) { h.Objs = append([]impl.Obj{{Id: -3}}, h.Objs...) }},
	{"a node's Id is Next", func(h *impl.Heap) { h.Nodes[4].Id = 11 }},
	{"an object's Id is Next", func(h *impl.Heap) { h.Objs = append(h.Objs, impl.Obj{Id: 11}) }},
	{"nodes fall", func(h *impl.Heap) { h.Nodes[3], h.Nodes[4] = h.Nodes[4], h.Nodes[3] }},
	{"a node twice", func(h *impl.Heap) { h.Nodes = append(h.Nodes, h.Nodes[4]) }},
	{"objects fall", func(h *impl.Heap) { h.Objs[1], h.Objs[2] = h.Objs[2], h.Objs[1] }},
	{"an object twice", func(h *impl.Heap) { h.Objs = append(h.Objs, h.Objs[3]) }},
	{"an Id in both", func(h *impl.Heap) { h.Objs = append(h.Objs, impl.Obj{Id: 9}) }},
	{"no Tag", func(h *impl.Heap) { h.Nodes[4].Tag = "" }},
	{"a Tag that is no name", func(h *impl.Heap) { h.Nodes[4].Tag = "Li" }},
	{"a kid twice", func(h *impl.Heap) { h.Nodes[0].Kids = []int64{6, 3, 6} }},
	{"a kid that is none", func(h *impl.Heap) { h.Nodes[0].Kids = []int64{6, 3, 10} }},
	{"a kid 0", func(h *impl.Heap) { h.Nodes[0].Kids = []int64{6, 3, 0} }},
	{"a kid that is an object", func(h *impl.Heap) { h.Nodes[0].Kids = []int64{6, 3, 5} }},
	{"a kid without a Parent", func(h *impl.Heap) { h.Nodes[0].Kids = []int64{6, 3, 9} }},
	{"a kid of another Parent", func(h *impl.Heap) { h.Nodes[0].Kids = []int64{6, 3, 8} }},
	{"a Parent that has it not", func(h *impl.Heap) { h.Nodes[4].Parent = 1 }},
	{"a Parent that is none", func(h *impl.Heap) { h.Nodes[4].Parent = 10 }},
	{"a Parent that is an object", func(h *impl.Heap) { h.Nodes[4].Parent = 5 }},
	{"a Parent below 0", func(h *impl.Heap) { h.Nodes[4].Parent = -1 }},
	{"its own Parent", func(h *impl.Heap) { h.Nodes[4].Parent, h.Nodes[4].Kids = 9, []int64{9} }},
	{"a ring of two", func(h *impl.Heap) {
		h.Nodes = append(h.Nodes, impl.Node{Id: 10, Tag: "a", Parent: 9, Kids: []int64{9}})
		h.Nodes[4].Parent, h.Nodes[4].Kids = 10, []int64{10}
	}},
	{"a ring of three, with one below it", func(h *impl.Heap) {
		h.Next = 14
		h.Nodes = append(h.Nodes, impl.Node{Id: 11, Tag: "a", Parent: 9, Kids: []int64{12, 13}}, impl.Node{Id: 12, Tag: "a", Parent: 11, Kids: []int64{9}}, impl.Node{Id: 13, Tag: "a", Parent: 11})
		h.Nodes[4].Parent, h.Nodes[4].Kids = 12, []int64{11}
	}},
	{"a Wrapper that is none", func(h *impl.Heap) { h.Nodes[4].Wrapper = 10 }},
	{"a Wrapper that is a node", func(h *impl.Heap) { h.Nodes[4].Wrapper = 8 }},
	{"a Wrapper below 0", func(h *impl.Heap) { h.Nodes[4].Wrapper = -1 }},
	{"a Wrapper without a Node", func(h *impl.Heap) { h.Nodes[4].Wrapper = 5 }},
	{"a Wrapper of another Node", func(h *impl.Heap) { h.Nodes[4].Wrapper = 2 }},
	{"no Wrapper, but an object's Node", func(h *impl.Heap) { h.Nodes[2].Wrapper = 0 }},
	{"a Node that is none", func(h *impl.Heap) { h.Objs[2].Node = 10 }},
	{"a Node that is an object", func(h *impl.Heap) { h.Objs[2].Node = 4 }},
	{"a Node below 0", func(h *impl.Heap) { h.Objs[2].Node = -1 }},
	{"a Node without a Wrapper", func(h *impl.Heap) { h.Objs[2].Node = 9 }},
	{"a Node of another Wrapper", func(h *impl.Heap) { h.Objs[2].Node = 1 }},
	{"no Node, but a node's Wrapper", func(h *impl.Heap) { h.Objs[3].Node = 0 }},
	{"a listener without a Type", func(h *impl.Heap) { h.Nodes[1].Listeners[0].Type = "" }},
	{"a listener without a Name", func(h *impl.Heap) { h.Nodes[1].Listeners[1].Name = "" }},
	{"a listener's Type that is no name", func(h *impl.Heap) { h.Nodes[1].Listeners[1].Type = "a b" }},
	{"a listener's Name that is no name", func(h *impl.Heap) { h.Nodes[1].Listeners[0].Name = "a1" }},
	{"a field without a Name", func(h *impl.Heap) { h.Objs[1].Fields[0].Name = "" }},
	{"a field's Name that is no name", func(h *impl.Heap) { h.Objs[1].Fields[0].Name = "x." }},
	{"fields fall", func(h *impl.Heap) { f := h.Objs[0].Fields; f[0], f[1] = f[1], f[0] }},
	{"a field twice", func(h *impl.Heap) { h.Objs[0].Fields[1].Name = "a" }},
	{"a field that holds none", func(h *impl.Heap) { h.Objs[0].Fields[2].Obj = 10 }},
	{"a field that holds 0", func(h *impl.Heap) { h.Objs[0].Fields[2].Obj = 0 }},
	{"a field that holds a node", func(h *impl.Heap) { h.Objs[0].Fields[2].Obj = 9 }},
	{"a global without a Name", func(h *impl.Heap) { h.Globals[0].Name = "" }},
	{"a global's Name that is no name", func(h *impl.Heap) { h.Globals[3].Name = "z!" }},
	{"globals fall", func(h *impl.Heap) { h.Globals[0], h.Globals[1] = h.Globals[1], h.Globals[0] }},
	{"a global twice", func(h *impl.Heap) { h.Globals[1].Name = "d" }},
	{"a global that holds none", func(h *impl.Heap) { h.Globals[0].Obj = 10 }},
	{"a global that holds 0", func(h *impl.Heap) { h.Globals[0].Obj = 0 }},
	{"a global that holds a node", func(h *impl.Heap) { h.Globals[0].Obj = 1 }},
	{"Doc 0", func(h *impl.Heap) { h.Doc = 0 }},
	{"Doc is none", func(h *impl.Heap) { h.Doc = 10 }},
	{"Doc is an object", func(h *impl.Heap) { h.Doc = 2 }},
	{"Doc has a Parent", func(h *impl.Heap) { h.Doc = 6 }},
}

// heapsNotRight breaks each clause, and passes a limit by one.
func heapsNotRight(each func(what string, h impl.Heap)) {
	for _, c := range brokenClauses {
		h := smallHeap()
		c.wrong(&h)
		each(c.name, h)
	}
	past := fullHeap()
	past.Next++
	each("Next above MaxId", past)
	more := fullHeap()
	more.Nodes = append(more.Nodes, impl.Node{Id: 101, Tag: "a"})
	each("17 nodes", more)
	many := smallHeap()
	many.Globals = fieldsTo(4, 9)
	each("nine globals", many)
	loud := smallHeap()
	loud.Nodes[0].Listeners = listeners(5)
	each("five listeners", loud)
}

func TestClausesOfHeaps(t *testing.T) {
	for _, c := range brokenClauses {
		h := smallHeap()
		c.wrong(&h)
		if impl.HeapOk(h) {
			t.Error(c.name, "is accepted")
		}
		if isRight(h) {
			t.Error(c.name, "breaks nothing")
		}
		tellsNothing(t, c.name, h)
	}
}

func tellsNothing(t *testing.T, what string, h impl.Heap) {
	t.Helper()
	for _, name := range []string{"d", "e", "ea", "z", ""} {
		for _, field := range []string{"a", "ab", "b", "x", ""} {
			if id, ok := impl.FieldOf(h, name, field); ok || id != 0 {
				t.Error(what, name, field, id, ok)
			}
		}
		if id, ok := impl.GlobalOf(h, name); ok || id != 0 {
			t.Error(what, name, id, ok)
		}
		if id, ok := impl.NodeOf(h, name); ok || id != 0 {
			t.Error(what, name, id, ok)
		}
	}
}

func numbersIn(h *impl.Heap) []*int64 {
	l := []*int64{&h.Next, &h.Doc}
	for i := range h.Nodes {
		n := &h.Nodes[i]
		l = append(l, &n.Id, &n.Parent, &n.Wrapper)
		for j := range n.Kids {
			l = append(l, &n.Kids[j])
		}
		for j := range n.Listeners {
			l = append(l, &n.Listeners[j].Stop)
		}
	}
	for i := range h.Objs {
		l = append(l, &h.Objs[i].Id, &h.Objs[i].Node)
		for j := range h.Objs[i].Fields {
			l = append(l, &h.Objs[i].Fields[j].Obj)
		}
	}
	for i := range h.Globals {
		l = append(l, &h.Globals[i].Obj)
	}
	return l
}

func textsIn(h *impl.Heap) []*string {
	var l []*string
	for i := range h.Nodes {
		l = append(l, &h.Nodes[i].Tag)
		for j := range h.Nodes[i].Listeners {
			l = append(l, &h.Nodes[i].Listeners[j].Type, &h.Nodes[i].Listeners[j].Name)
		}
	}
	for i := range h.Objs {
		for j := range h.Objs[i].Fields {
			l = append(l, &h.Objs[i].Fields[j].Name)
		}
	}
	for i := range h.Globals {
		l = append(l, &h.Globals[i].Name)
	}
	return l
}

// asksHeap holds HeapOk against the rule above.
func asksHeap(t *testing.T, h impl.Heap) bool {
	t.Helper()
	want := isRight(h)
	if impl.HeapOk(h) != want {
		t.Fatalf("%+v: %v, want %v", h, !want, want)
	}
	return want
}

// Every two numbers of a heap, each with every value near by.
func TestNumbersOfHeaps(t *testing.T) {
	h := smallHeap()
	numbers := numbersIn(&h)
	right := 0
	for i, p := range numbers {
		for v := int64(-1); v <= 12; v++ {
			was := *p
			*p = v
			for _, q := range numbers[i+1:] {
				for u := int64(-1); u <= 12; u++ {
					also := *q
					*q = u
					if asksHeap(t, h) {
						right++
					}
					*q = also
				}
			}
			*p = was
		}
	}
	if right == 0 || !reflect.DeepEqual(h, smallHeap()) {
		t.Error(right, h)
	}
}

func TestTextsOfHeaps(t *testing.T) {
	h := smallHeap()
	right := 0
	for _, p := range textsIn(&h) {
		was := *p
		for _, s := range []string{"", "a", "aa", "ab", "abc", "b", "d", "e", "ea", "eb", "x", "z", "zzzzzz", "zzzzzzz", "A", "a ", "é", "\x00", "`", "{"} {
			*p = s
			if asksHeap(t, h) {
				right++
			}
		}
		*p = was
	}
	if right == 0 || !reflect.DeepEqual(h, smallHeap()) {
		t.Error(right, h)
	}
}

// changedLists are l without one of it, with one twice, with two put about.
func changedLists[T any](l []T) [][]T {
	var all [][]T
	for i := range l {
		less := append(append([]T(nil), l[:i]...), l[i+1:]...)
		twice := append(append(append([]T(nil), l[:i+1]...), l[i]), l[i+1:]...)
		all = append(all, less, twice)
		for j := range i {
			other := append([]T(nil), l...)
			other[i], other[j] = other[j], other[i]
			all = append(all, other)
		}
	}
	return all
}

func asksLists[T any](t *testing.T, h *impl.Heap, at *[]T) {
	was := *at
	for _, l := range changedLists(was) {
		*at = l
		asksHeap(t, *h)
	}
	*at = was
}

func TestListsOfHeaps(t *testing.T) {
	for _, h := range []impl.Heap{smallHeap(), fullHeap(), impl.HeapNew()} {
		asksLists(t, &h, &h.Nodes)
		asksLists(t, &h, &h.Objs)
		asksLists(t, &h, &h.Globals)
		for i := range h.Nodes {
			asksLists(t, &h, &h.Nodes[i].Kids)
			asksLists(t, &h, &h.Nodes[i].Listeners)
		}
		for i := range h.Objs {
			asksLists(t, &h, &h.Objs[i].Fields)
		}
	}
}

// Lists far above every limit are refused, and soon.
func TestVeryLongLists(t *testing.T) {
	const many = 1 << 20
	for name, wrong := range map[string]func(h *impl.Heap){
		"Nodes":     func(h *impl.Heap) { h.Nodes = make([]impl.Node, many) },
		"Objs":      func(h *impl.Heap) { h.Objs = make([]impl.Obj, many) },
		"Globals":   func(h *impl.Heap) { h.Globals = make([]impl.Field, many) },
		"Fields":    func(h *impl.Heap) { h.Objs[0].Fields = make([]impl.Field, many) },
		"Listeners": func(h *impl.Heap) { h.Nodes[0].Listeners = make([]impl.Listener, many) },
		"Kids":      func(h *impl.Heap) { h.Nodes[0].Kids = make([]int64, many) },
		"unlike Kids": func(h *impl.Heap) {
			for i := range int64(many) {
				h.Nodes[0].Kids = append(h.Nodes[0].Kids, i)
			}
		},
	} {
		h := smallHeap()
		wrong(&h)
		if impl.HeapOk(h) {
			t.Error(name)
		}
		tellsNothing(t, name, h)
	}
}

// Promise 2: what is told of a name is what its object says.
func TestToldOfNames(t *testing.T) {
	names := []string{"a", "ab", "b", "d", "e", "ea", "x", "z", "doc", "p", "", "D", "d ", "abcdefg", "globaa", "globah", "fielda", "fielde", "fieldf"}
	found := [3]int{}
	for _, h := range []impl.Heap{smallHeap(), fullHeap(), impl.HeapNew()} {
		for _, name := range names {
			var its *impl.Obj
			for _, g := range h.Globals {
				for i := range h.Objs {
					if g.Name == name && h.Objs[i].Id == g.Obj {
						its = &h.Objs[i]
					}
				}
			}
			id, ok := impl.GlobalOf(h, name)
			if ok != (its != nil) || ok && id != its.Id || !ok && id != 0 {
				t.Error("global", name, id, ok)
			}
			node, ok := impl.NodeOf(h, name)
			if want := its != nil && its.Node != 0; ok != want || ok && node != its.Node || !ok && node != 0 {
				t.Error("node", name, node, ok)
			}
			for _, field := range names {
				want, is := int64(0), false
				for i := 0; its != nil && i < len(its.Fields); i++ {
					if its.Fields[i].Name == field {
						want, is = its.Fields[i].Obj, true
					}
				}
				if got, ok := impl.FieldOf(h, name, field); got != want || ok != is {
					t.Error("field", name, field, got, ok)
				} else if ok {
					found[2]++
				}
			}
			if its != nil {
				found[0]++
			}
			if ok {
				found[1]++
			}
		}
	}
	if found[0] == 0 || found[1] == 0 || found[2] == 0 {
		t.Error("nothing is found", found)
	}
}

func TestToldOfSmallHeap(t *testing.T) {
	h := smallHeap()
	for _, c := range []struct {
		name   string
		global int64
		node   int64
		fields map[string]int64
	}{
		{"d", 2, 1, map[string]int64{"a": 7, "ab": 2, "b": 4}},
		{"e", 4, 0, map[string]int64{"x": 5}},
		{"ea", 7, 6, nil},
		{"z", 4, 0, map[string]int64{"x": 5}},
		{"a", 0, 0, nil},
	} {
		if id, ok := impl.GlobalOf(h, c.name); id != c.global || ok != (c.global != 0) {
			t.Error(c.name, id, ok)
		}
		if id, ok := impl.NodeOf(h, c.name); id != c.node || ok != (c.node != 0) {
			t.Error(c.name, id, ok)
		}
		for _, field := range []string{"a", "ab", "b", "x", "y"} {
			if id, ok := impl.FieldOf(h, c.name, field); id != c.fields[field] || ok != (c.fields[field] != 0) {
				t.Error(c.name, field, id, ok)
			}
		}
	}
}

// withRoom is a copy of l with filled room behind it.
func withRoom[T any](l []T, fill T) []T {
	return append(append(make([]T, 0, len(l)+3), l...), fill, fill)[:len(l)]
}

func sparedHeap(h impl.Heap) impl.Heap {
	h.Nodes = withRoom(h.Nodes, impl.Node{Id: 77, Tag: "spare"})
	h.Objs = withRoom(h.Objs, impl.Obj{Id: 77})
	h.Globals = withRoom(h.Globals, impl.Field{Name: "spare", Obj: 77})
	for i := range h.Nodes {
		h.Nodes[i].Kids = withRoom(h.Nodes[i].Kids, 77)
		h.Nodes[i].Listeners = withRoom(h.Nodes[i].Listeners, impl.Listener{Type: "spare"})
	}
	for i := range h.Objs {
		h.Objs[i].Fields = withRoom(h.Objs[i].Fields, impl.Field{Name: "spare", Obj: 77})
	}
	return h
}

// shown tells a heap with the room behind its lists.
func shown(h impl.Heap) string {
	s := fmt.Sprint(h.Next, h.Doc, len(h.Nodes), len(h.Objs), len(h.Globals), h.Globals[:cap(h.Globals)])
	for _, n := range h.Nodes[:cap(h.Nodes)] {
		s += fmt.Sprint(n, n.Kids[:cap(n.Kids)], n.Listeners[:cap(n.Listeners)])
	}
	for _, o := range h.Objs[:cap(h.Objs)] {
		s += fmt.Sprint(o, o.Fields[:cap(o.Fields)])
	}
	return s
}

func TestHeapsStayAsTheyAre(t *testing.T) {
	bad := smallHeap()
	bad.Nodes[3].Parent = 9
	for _, given := range []impl.Heap{smallHeap(), fullHeap(), impl.HeapNew(), bad} {
		h := sparedHeap(given)
		was := shown(h)
		ok := impl.HeapOk(h)
		for _, name := range []string{"d", "e", "globaa", "none"} {
			id, is := impl.GlobalOf(h, name)
			impl.NodeOf(h, name)
			impl.FieldOf(h, name, "a")
			if id2, is2 := impl.GlobalOf(h, name); id2 != id || is2 != is {
				t.Error("not the same answers")
			}
		}
		if shown(h) != was || impl.HeapOk(h) != ok || ok != isRight(given) {
			t.Errorf("%v: written into", given)
		}
	}
}
