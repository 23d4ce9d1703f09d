package tests

import (
	"fmt"
	"go/ast"
	"go/parser"
	"go/token"
	"maps"
	"math"
	"math/rand"
	"path/filepath"
	"reflect"
	"slices"
	"strings"
	"sync"
	"testing"

	"loop.example/g00376/impl"
)

// chapters has all functions of the program, by the file of their layer.
var chapters = map[string]map[string]any{
	"l01_names.go":  {"NameOk": impl.NameOk, "TreeOk": impl.TreeOk, "SizeOf": impl.SizeOf, "TreeText": impl.TreeText, "ReadTree": impl.ReadTree},
	"l02_heaps.go":  {"HeapOk": impl.HeapOk, "HeapNew": impl.HeapNew, "GlobalOf": impl.GlobalOf, "NodeOf": impl.NodeOf, "FieldOf": impl.FieldOf},
	"l03_trees.go":  {"Above": impl.Above, "InOrder": impl.InOrder, "Contains": impl.Contains, "TreeOf": impl.TreeOf},
	"l04_ops.go":    {"OpOk": impl.OpOk, "Ran": impl.Ran, "RanAll": impl.RanAll},
	"l05_reach.go":  {"EdgesOf": impl.EdgesOf, "Reached": impl.Reached, "CountsOf": impl.CountsOf, "Collected": impl.Collected},
	"l06_trial.go":  {"Below": impl.Below, "Trial": impl.Trial, "Freed": impl.Freed},
	"l07_events.go": {"Fired": impl.Fired},
	"l08_markup.go": {"Escaped": impl.Escaped, "Unescaped": impl.Unescaped, "MarkOk": impl.MarkOk, "MarkText": impl.MarkText, "ReadMark": impl.ReadMark,
		"Bare": impl.Bare, "TextIn": impl.TextIn},
	"l09_queries.go": {"SelOk": impl.SelOk, "SelText": impl.SelText, "ReadSel": impl.ReadSel, "PathsOf": impl.PathsOf, "At": impl.At, "Matches": impl.Matches,
		"FindAll": impl.FindAll, "Closest": impl.Closest},
	"l10_edits.go": {"Edited": impl.Edited, "EditOk": impl.EditOk, "EditedAll": impl.EditedAll, "Undone": impl.Undone, "Diffed": impl.Diffed},
	"l11_arena.go": {"ArenaOk": impl.ArenaOk, "ArenaNew": impl.ArenaNew, "Allocated": impl.Allocated, "Released": impl.Released, "Deref": impl.Deref,
		"Stored": impl.Stored, "HandlesOf": impl.HandlesOf},
	"l12_marking.go": {"MarkerOk": impl.MarkerOk, "MarkBegun": impl.MarkBegun, "Marked": impl.Marked, "Barred": impl.Barred, "Swept": impl.Swept},
	"l13_machine.go": {"InstrOk": impl.InstrOk, "DepthsOf": impl.DepthsOf, "ProgOk": impl.ProgOk, "ProgText": impl.ProgText, "ReadProg": impl.ReadProg,
		"VmStep": impl.VmStep, "VmRun": impl.VmRun},
	"l14_loops.go": {"LoopOk": impl.LoopOk, "LoopNew": impl.LoopNew, "Posted": impl.Posted, "After": impl.After, "Turned": impl.Turned, "LoopRun": impl.LoopRun},
	"l15_worlds.go": {"Grown": impl.Grown, "WorldOk": impl.WorldOk, "WorldNew": impl.WorldNew, "Acted": impl.Acted, "Sent": impl.Sent, "Taken": impl.Taken,
		"Closed": impl.Closed},
	"l16_script.go": {"RunScript": impl.RunScript},
}

func TestAllFunctionsAreInChapters(t *testing.T) {
	files, err := filepath.Glob("../impl/*.go")
	if err != nil || len(files) != len(chapters) {
		t.Fatal(files, err)
	}
	for _, file := range files {
		f, err := parser.ParseFile(token.NewFileSet(), file, nil, 0)
		if err != nil {
			t.Fatal(err)
		}
		n := 0
		for _, d := range f.Decls {
			if one, ok := d.(*ast.FuncDecl); ok && one.Recv == nil && one.Name.IsExported() {
				n++
				if chapters[filepath.Base(file)][one.Name.Name] == nil {
					t.Error(file, one.Name.Name)
				}
			}
		}
		if n != len(chapters[filepath.Base(file)]) {
			t.Error(file, n)
		}
	}
}

// fillerOf is a value that no argument of that type has: what is laid into the
// room behind a list, and over an answer.
func fillerOf(of reflect.Type) reflect.Value {
	v := reflect.New(of).Elem()
	switch of.Kind() {
	case reflect.Int64:
		v.SetInt(77777)
	case reflect.String:
		v.SetString("filler")
	case reflect.Bool:
		v.SetBool(true)
	case reflect.Struct:
		for i := range of.NumField() {
			v.Field(i).Set(fillerOf(of.Field(i).Type))
		}
	}
	return v
}

// withSpare is a copy whose lists, at every depth, have filled room behind them.
func withSpare(v reflect.Value) reflect.Value {
	made := reflect.New(v.Type()).Elem()
	made.Set(v)
	switch v.Kind() {
	case reflect.Struct:
		for i := range v.NumField() {
			made.Field(i).Set(withSpare(v.Field(i)))
		}
	case reflect.Slice:
		made.Set(reflect.MakeSlice(v.Type(), v.Len()+3, v.Len()+3))
		for i := range made.Len() {
			if i < v.Len() {
				made.Index(i).Set(withSpare(v.Index(i)))
			} else {
				made.Index(i).Set(fillerOf(v.Type().Elem()))
			}
		}
		made.SetLen(v.Len())
	}
	return made
}

// overwrite lays fillers over all lists of a value, and into the room behind.
func overwrite(v reflect.Value) {
	switch v.Kind() {
	case reflect.Struct:
		for i := range v.NumField() {
			overwrite(v.Field(i))
		}
	case reflect.Slice:
		for i := range v.Len() {
			overwrite(v.Index(i))
		}
		all := v.Slice(0, v.Cap())
		for i := range all.Len() {
			all.Index(i).Set(fillerOf(v.Type().Elem()))
		}
	}
}

// appendValue tells a value; with room behind each list, too, if asked for. An
// empty list and nil are told alike.
func appendValue(text []byte, v reflect.Value, room bool) []byte {
	switch v.Kind() {
	case reflect.Struct:
		text = append(text, '{')
		for i := range v.NumField() {
			text = appendValue(text, v.Field(i), room)
		}
		return append(text, '}')
	case reflect.Slice:
		text = fmt.Appendf(text, "[%d:", v.Len())
		if room {
			text = fmt.Appendf(text, "%d:", v.Cap())
			v = v.Slice(0, v.Cap())
		}
		for i := range v.Len() {
			text = appendValue(text, v.Index(i), room)
		}
		return append(text, ']')
	case reflect.String:
		return fmt.Appendf(text, "%q ", v.String())
	}
	return fmt.Append(text, v, " ")
}

func valuesText(l []reflect.Value, room bool) string {
	var text []byte
	for _, v := range l {
		text = appendValue(text, v, room)
	}
	return string(text)
}

func TestValuesAreTold(t *testing.T) {
	v := withSpare(reflect.ValueOf(smallHeap()))
	h := v.Interface().(impl.Heap)
	was := valuesText([]reflect.Value{v}, true)
	if !sameHeap(h, smallHeap()) || valuesText([]reflect.Value{v}, false) != valuesText([]reflect.Value{reflect.ValueOf(smallHeap())}, false) || cap(h.Nodes[3].Kids) != 3 {
		t.Fatal(was)
	}
	for _, at := range []*int64{&h.Nodes[:8][7].Id, &h.Nodes[0].Kids[0], &h.Nodes[0].Kids[:5][4], &h.Objs[1].Fields[:4][3].Obj, &h.Globals[:5][4].Obj} {
		*at += 5
		if valuesText([]reflect.Value{v}, true) == was {
			t.Error("not seen", was)
		}
		*at -= 5
	}
	if valuesText([]reflect.Value{v}, true) != was {
		t.Error(was)
	}
	overwrite(v)
	if h.Nodes[0].Id != 77777 || h.Objs[:7][6].Node != 77777 || h.Globals[0].Name != "filler" {
		t.Error(h)
	}
}

// A givenPool has values to be handed to the functions, by their type, each
// with filled room behind its lists.
type givenPool map[reflect.Type][]reflect.Value

func (p givenPool) add(values ...any) {
	for _, one := range values {
		v := withSpare(reflect.ValueOf(one))
		p[v.Type()] = append(p[v.Type()], v)
	}
}

func (p givenPool) text() string {
	var names []string
	for of, l := range p {
		names = append(names, of.String()+valuesText(l, true))
	}
	slices.Sort(names)
	return strings.Join(names, "\n")
}

func allGiven(t *testing.T) givenPool {
	p := givenPool{}
	p.add(false, true, int64(0), int64(1), int64(2), int64(3), int64(6), int64(100), int64(-1), int64(math.MaxInt64), int64(math.MinInt64))
	p.add("", "a", "d", "x", "click", "abcdefg", "<a><b></b></a>", `<a x="1">b &amp; c</a>`, "a > *", "num 1; tell; halt", "a<b&\"", deepPage+"tree\nlisten p x f once\nfire p x\nfire p x\ncount\n", "tree\nfly\nwho A\n")
	p.add([]int64{}, []int64{0}, []int64{0, 0}, []int64{3, 2}, []int64{6, 6, 4}, []int64{9}, []int64{11, 3}, []int64{-1}, slices.Repeat([]int64{1}, 101))
	addTrees(p)
	addHeaps(t, p)
	addOps(p)
	addArenas(p)
	addPrograms(t, p)
	addLoops(t, p)
	return p
}

func addTrees(p givenPool) {
	p.add(leaf("a"), node("a", node("b", leaf("c")), leaf("d")), node("a", node("x", leaf("c")), leaf("d"), leaf("d")), comb("li", 15), star("p", 30), star("p", 31), impl.Tree{}, node("a", leaf("B")))
	p.add(words("a & b"), withAttrs(tagged("p", words("one"), tagged("em", words("two")), words("<3>")), "id", "x\"y"), tagged("p", words("a"), words("b")), impl.Mark{}, tagged("div", tagged("p")))
	p.add([]impl.Step{deep("a")}, []impl.Step{deep("a"), next("")}, []impl.Step{deep(""), deep("c")}, []impl.Step{next("a")}, []impl.Step{})
	edits := []impl.Edit{edInsert(node("x", leaf("y")), 0), edInsert(leaf("z"), 1), edDelete(0), edRename("q"), edRename("q", 0, 0), edDelete(), edRename("Q"), {}}
	for _, e := range edits {
		p.add(e)
	}
	p.add(edits[:5], edits[2:4], edits, []impl.Edit{})
}

func addHeaps(t *testing.T, p givenPool) {
	wrong := smallHeap()
	wrong.Doc = 9
	wrong.Nodes[4].Parent = 1
	loose := did(t, storyHeap(t), opListen("d", impl.Listener{Type: "click", Name: "f", Once: true, Capture: true}), opListen("a", impl.Listener{Type: "click", Name: "g"}), opDrop("e"), opDrop("f"))
	for _, h := range []impl.Heap{impl.HeapNew(), smallHeap(), fullHeap(), storyHeap(t), loose, wrong, {}} {
		p.add(h)
		if m, ok := impl.MarkBegun(h); ok {
			some, _ := impl.Marked(h, m, 2)
			all, _ := impl.Marked(h, m, 100)
			p.add(m, some, all)
		}
	}
	p.add(impl.Marker{}, marks([]int64{1}, []int64{1}))
}

func addOps(p givenPool) {
	ops := []impl.Op{
		opElement("a", "p"), opObject("n"), opSet("a", "x", "d"), opGet("a", "x", "q"), opUnset("d", "a"), opDrop("d"), opAppend("d", "e"), opBefore("b", "e"),
		opDetach("b"), opDoc("z"), opFirst("d", "k"), opListen("d", impl.Listener{Type: "click", Name: "h", Stop: 1}), {}, opObject("A"),
	}
	for _, o := range ops {
		p.add(o)
	}
	p.add(ops[:6], ops[4:10], ops[6:13], []impl.Op{}, slices.Repeat(ops[:1], 101), ops[3:5])
}

func addArenas(p givenPool) {
	p.add(smallArena(), arena([]int64{1, 0}, unused(1), unused(3)), arena(nil, used(1000000, "a")), arena([]int64{0}, used(1, "a")), impl.Arena{})
	p.add(handle(0, 1), handle(1, 1), handle(2, 1), handle(1, 3), handle(0, 1000000), handle(-1, 1))
}

func addPrograms(t *testing.T, p givenPool) {
	for _, text := range []string{"halt", "num 3; dup; tell; num -1; add; dup; unless 8; jump 1; pop; halt", "new; dup; load d; set x; store n; jump 0", "load d; get a; store a; nil; store d; halt", "nil; tell; halt"} {
		prog := program(t, text)
		p.add(prog)
		p.add(prog[0])
	}
	p.add([]impl.Instr{}, []impl.Instr{{Kind: impl.InPop}, {Kind: impl.InHalt}}, impl.Instr{}, impl.Instr{Kind: impl.InJump, N: 20})
	p.add(impl.Frame{}, frame(1, []int64{1, 2}, vNum(3)), frame(2, nil, vObj(2), vObj(2)), frame(1, nil, vNil()), frame(9, []int64{5}), frame(-1, nil))
}

func addLoops(t *testing.T, p givenPool) {
	first := loopNew(t, storyHeap(t))
	wrong := busyLoop()
	wrong.Now = -1
	p.add(first, busyLoop(), fullLoop(), posted(t, first, true, opObject("n"), opDrop("a")), wrong, impl.Loop{})
	bad := busyWorld(t)
	bad.Posts[3].To = 3
	p.add(worldNew(t, 2), worldNew(t, 3), busyWorld(t), bad, impl.World{})
}

// A request is a function and what it is called with.
type request struct {
	name string
	call reflect.Value
	with []reflect.Value
}

func (q request) answers() []reflect.Value { return q.call.Call(q.with) }

func (q request) String() string { return q.name + " " + valuesText(q.with, false) }

// requestsOf has all that a function can be given, over and over where that is
// little, or so many of these by lot.
func requestsOf(r *rand.Rand, p givenPool, name string, function any, most int) []request {
	call := reflect.ValueOf(function)
	all := 1
	for i := range call.Type().NumIn() {
		all *= len(p[call.Type().In(i)])
	}
	if all == 0 {
		return nil
	}
	var l []request
	for number := range most {
		if all > most {
			number = r.Intn(all)
		}
		q := request{name: name, call: call}
		for i := range call.Type().NumIn() {
			from := p[call.Type().In(i)]
			q.with = append(q.with, from[number%len(from)])
			number /= len(from)
		}
		l = append(l, q)
	}
	return l
}

func allRequests(t *testing.T, r *rand.Rand, p givenPool, most int) []request {
	var l []request
	for _, file := range slices.Sorted(maps.Keys(chapters)) {
		for _, name := range slices.Sorted(maps.Keys(chapters[file])) {
			its := requestsOf(r, p, name, chapters[file][name], most)
			if len(its) == 0 {
				t.Fatal("nothing is given to", name)
			}
			l = append(l, its...)
		}
	}
	return l
}

// Promise 17, of every function: all are called in turn, then again in other
// orders, so that others stand between the two times; what they answered the
// first time is overwritten by then, which shows in what they were given, or in
// their next answers, if that is kept or shared.
func TestTheSameAnswersInAllChapters(t *testing.T) {
	r := rand.New(rand.NewSource(170))
	p := allGiven(t)
	was := p.text()
	requests := allRequests(t, r, p, 400)
	first := make([]string, len(requests))
	unlike := map[string]map[string]bool{}
	for i, q := range requests {
		had := valuesText(q.with, true)
		answers := q.answers()
		first[i] = valuesText(answers, false)
		for _, a := range answers {
			writable := reflect.New(a.Type()).Elem()
			writable.Set(a)
			overwrite(writable)
		}
		if valuesText(q.with, true) != had {
			t.Fatalf("%v: written into, or shared with the answer %s", q, first[i])
		}
		if unlike[q.name] == nil {
			unlike[q.name] = map[string]bool{}
		}
		unlike[q.name][first[i]] = true
	}
	for range 2 {
		for _, i := range r.Perm(len(requests)) {
			if got := valuesText(requests[i].answers(), false); got != first[i] {
				t.Fatalf("%v: %s, was %s", requests[i], got, first[i])
			}
		}
	}
	if p.text() != was {
		t.Fatal("written into what was given")
	}
	for name, l := range unlike {
		if len(l) < 2 && name != "HeapNew" {
			t.Error("too much alike", name, l)
		}
	}
}

// Twice in a row, with no other call between, and with copies in the place of
// what was given: neither an address nor the room behind a list is answered to.
func TestCopiesAreAnsweredAlike(t *testing.T) {
	r := rand.New(rand.NewSource(171))
	for _, q := range allRequests(t, r, allGiven(t), 100) {
		want := valuesText(q.answers(), false)
		if got := valuesText(q.answers(), false); got != want {
			t.Fatalf("%v: %s, then %s", q, want, got)
		}
		copied := request{name: q.name, call: q.call}
		for _, v := range q.with {
			copied.with = append(copied.with, withoutSpare(v))
		}
		if got := valuesText(copied.answers(), false); got != want {
			t.Fatalf("%v: %s, of a copy %s", q, want, got)
		}
	}
}

// withoutSpare is a copy whose lists have no room behind them, and are nil when
// they are empty.
func withoutSpare(v reflect.Value) reflect.Value {
	made := reflect.New(v.Type()).Elem()
	made.Set(v)
	switch {
	case v.Kind() == reflect.Struct:
		for i := range v.NumField() {
			made.Field(i).Set(withoutSpare(v.Field(i)))
		}
	case v.Kind() == reflect.Slice && v.Len() == 0:
		made.SetZero()
	case v.Kind() == reflect.Slice:
		made.Set(reflect.MakeSlice(v.Type(), v.Len(), v.Len()))
		for i := range v.Len() {
			made.Index(i).Set(withoutSpare(v.Index(i)))
		}
	}
	return made
}

// No list of an answer shares memory with another one, or with what was given.
func TestAnswersAreNewMemoryInAllChapters(t *testing.T) {
	r := rand.New(rand.NewSource(172))
	for _, q := range allRequests(t, r, allGiven(t), 60) {
		var answers, given []any
		for _, a := range slices.Concat(q.answers(), q.answers()) {
			answers = append(answers, a.Interface())
		}
		for _, g := range q.with {
			given = append(given, g.Interface())
		}
		if where := sharing(answers, given); where != "" {
			t.Fatalf("%v: share memory: %s", q, where)
		}
	}
}

// All functions at one time, of the same arguments.
func TestAllChaptersBesideOneAnother(t *testing.T) {
	r := rand.New(rand.NewSource(173))
	p := allGiven(t)
	was := p.text()
	requests := allRequests(t, r, p, 40)
	want := make([]string, len(requests))
	for i, q := range requests {
		want[i] = valuesText(q.answers(), false)
	}
	var all sync.WaitGroup
	for range 8 {
		order := r.Perm(len(requests))
		all.Add(1)
		go func() {
			defer all.Done()
			for _, i := range order {
				if got := valuesText(requests[i].answers(), false); got != want[i] {
					t.Errorf("%v: %s, was %s", requests[i], got, want[i])
					return
				}
			}
		}()
	}
	all.Wait()
	if p.text() != was {
		t.Fatal("written into what was given")
	}
}
