package tests

import (
	"fmt"
	"math"
	"math/rand"
	"reflect"
	"regexp"
	"slices"
	"strings"
	"testing"

	"loop.example/g00376/impl"
)

// kindRows tell each Kind anew: its word, what it names (n a number, p a place,
// w a name), how many values it takes and how many it gives.
var kindRows = map[int64]struct {
	word, names  string
	takes, gives int
}{
	1: {"num", "n", 0, 1}, 2: {"nil", "", 0, 1}, 3: {"load", "w", 0, 1}, 4: {"store", "w", 1, 0}, 5: {"get", "w", 1, 1},
	6: {"set", "w", 2, 0}, 7: {"new", "", 0, 1}, 8: {"add", "", 2, 1}, 9: {"less", "", 2, 1}, 10: {"jump", "p", 0, 0},
	11: {"unless", "p", 1, 0}, 12: {"dup", "", 1, 2}, 13: {"pop", "", 1, 0}, 14: {"tell", "", 1, 0}, 15: {"halt", "", 0, 0},
}

func isInstr(i impl.Instr) bool {
	row, ok := kindRows[i.Kind]
	number, name := i.N == 0, i.Name == ""
	switch row.names {
	case "n":
		number = i.N >= -1000000 && i.N <= 1000000
	case "p":
		number = i.N >= 0 && i.N <= 19
	case "w":
		name = isName(i.Name)
	}
	return ok && number && name
}

// instrShown and progShown are texts, also of what is not right, as long as
// there are such Kinds.
func instrShown(i impl.Instr) string {
	row := kindRows[i.Kind]
	switch row.names {
	case "":
		return row.word
	case "w":
		return row.word + " " + i.Name
	}
	return fmt.Sprint(row.word, " ", i.N)
}

func progShown(p []impl.Instr) string {
	var l []string
	for _, i := range p {
		l = append(l, instrShown(i))
	}
	return strings.Join(l, "; ")
}

var instrShapes = []*regexp.Regexp{
	regexp.MustCompile(`^(nil|new|add|less|dup|pop|tell|halt)()$`),
	regexp.MustCompile(`^(load|store|get|set) ([a-z]{1,6})$`),
	regexp.MustCompile(`^(num|jump|unless) (0|-?[1-9][0-9]{0,6})$`),
}

// progIn reads a text anew: part by part, by shapes alone. What it answers need
// not be right.
func progIn(text string) ([]impl.Instr, bool) {
	var p []impl.Instr
	for _, part := range strings.Split(text, "; ") {
		i := impl.Instr{}
		for at, shape := range instrShapes {
			if m := shape.FindStringSubmatch(part); m != nil {
				for kind, row := range kindRows {
					if row.word == m[1] {
						i.Kind = kind
					}
				}
				if at == 1 {
					i.Name = m[2]
				}
				if at == 2 {
					fmt.Sscan(m[2], &i.N)
				}
			}
		}
		if i.Kind == 0 {
			return nil, false
		}
		p = append(p, i)
	}
	return p, true
}

// depthsIn tells anew how many values lie where: of each place all depths with
// which one may come to it, until there are no more.
func depthsIn(p []impl.Instr) ([]int64, bool) {
	for _, i := range p {
		if !isInstr(i) {
			return nil, false
		}
	}
	if len(p) == 0 || len(p) > 20 {
		return nil, false
	}
	seen := make([]map[int]bool, len(p))
	for at := range seen {
		seen[at] = map[int]bool{}
	}
	seen[0][0] = true
	for more := true; more; {
		more = false
		for at, i := range p {
			for depth := range 7 {
				if !seen[at][depth] {
					continue
				}
				row := kindRows[i.Kind]
				after := depth - row.takes + row.gives
				if depth < row.takes || after > 6 {
					return nil, false
				}
				for _, to := range behindIn(i, at) {
					if to >= len(p) {
						return nil, false
					}
					more = more || !seen[to][after]
					seen[to][after] = true
				}
			}
		}
	}
	var depths []int64
	for at := range p {
		its := int64(-1)
		for depth := range seen[at] {
			its = int64(depth)
		}
		if len(seen[at]) > 1 {
			return nil, false
		}
		depths = append(depths, its)
	}
	return depths, true
}

func behindIn(i impl.Instr, at int) []int {
	var places []int
	if i.Kind != impl.InHalt && i.Kind != impl.InJump {
		places = append(places, at+1)
	}
	if i.Kind == impl.InJump || i.Kind == impl.InUnless {
		places = append(places, int(i.N))
	}
	return places
}

// asksProg holds all that is told of a program ahead of a run against the
// tellings above.
func asksProg(t *testing.T, p []impl.Instr) bool {
	t.Helper()
	want, right := depthsIn(p)
	depths, ok := impl.DepthsOf(p)
	if ok != right || !slices.Equal(depths, want) || impl.ProgOk(p) != right {
		t.Fatalf("%s: depths %v %v %v, want %v %v", progShown(p), depths, ok, impl.ProgOk(p), want, right)
	}
	text := ""
	if right {
		text = progShown(p)
	}
	if got := impl.ProgText(p); got != text {
		t.Fatalf("%v: %q, want %q", p, got, text)
	}
	if !right {
		return false
	}
	if back, ok := impl.ReadProg(text); !ok || !slices.Equal(back, p) {
		t.Fatalf("%q comes back as %v %v", text, back, ok)
	}
	return true
}

// asksText holds the reading of any text against the tellings above.
func asksText(t *testing.T, text string) bool {
	t.Helper()
	want, right := progIn(text)
	if _, ok := depthsIn(want); !right || !ok {
		want, right = nil, false
	}
	if p, ok := impl.ReadProg(text); ok != right || !slices.Equal(p, want) {
		t.Fatalf("%q: %v %v, want %v %v", text, p, ok, want, right)
	}
	return right
}

// program is one that is written down in a test, and right.
func program(t *testing.T, text string) []impl.Instr {
	t.Helper()
	p, ok := progIn(text)
	if !ok || !asksProg(t, p) {
		t.Fatal(text, "is no program")
	}
	return p
}

func vNum(n int64) impl.Val { return impl.Val{Kind: impl.VlNum, N: n} }
func vObj(n int64) impl.Val { return impl.Val{Kind: impl.VlObj, N: n} }
func vNil() impl.Val        { return impl.Val{} }

func frame(pc int64, out []int64, stack ...impl.Val) impl.Frame {
	return impl.Frame{Pc: pc, Stack: stack, Out: out}
}

func sameFrame(a, b impl.Frame) bool {
	return a.Pc == b.Pc && slices.Equal(a.Stack, b.Stack) && slices.Equal(a.Out, b.Out)
}

// isFrame tells anew what a right frame is, of a right heap and a program with
// these depths.
func isFrame(h impl.Heap, depths []int64, f impl.Frame) bool {
	if f.Pc < 0 || f.Pc >= int64(len(depths)) || depths[f.Pc] == -1 || int(depths[f.Pc]) != len(f.Stack) || len(f.Out) > 20 {
		return false
	}
	for _, v := range f.Stack {
		isNum := v.Kind == 1 && v.N >= -1000000 && v.N <= 1000000
		isObj := v.Kind == 2 && slices.ContainsFunc(h.Objs, func(o impl.Obj) bool { return o.Id == v.N })
		if v != vNil() && !isNum && !isObj {
			return false
		}
	}
	return len(f.Out) == 0 || slices.Min(f.Out) >= -1000000 && slices.Max(f.Out) <= 1000000
}

// modelMachine is the model with values beside it: nil, a number, or one of its
// objects.
type modelMachine struct {
	*model
	pc    int64
	stack []any
	out   []int64
}

func machineOf(h impl.Heap, f impl.Frame) *modelMachine {
	m := &modelMachine{model: modelOf(h), pc: f.Pc, out: slices.Clone(f.Out)}
	for _, v := range f.Stack {
		switch v.Kind {
		case 0:
			m.push(nil)
		case 1:
			m.push(v.N)
		case 2:
			m.push(m.objs[v.N])
		}
	}
	return m
}

func (m *modelMachine) frame() impl.Frame {
	f := impl.Frame{Pc: m.pc, Out: m.out}
	for _, v := range m.stack {
		switch v := v.(type) {
		case nil:
			f.Stack = append(f.Stack, vNil())
		case int64:
			f.Stack = append(f.Stack, vNum(v))
		case *modelObj:
			f.Stack = append(f.Stack, vObj(v.id))
		}
	}
	return f
}

func (m *modelMachine) push(v any) { m.stack = append(m.stack, v) }

// pushHeld tells a missing object as nil without a type.
func (m *modelMachine) pushHeld(o *modelObj) {
	if o == nil {
		m.push(nil)
	} else {
		m.push(o)
	}
}

func (m *modelMachine) pop() any {
	v := m.stack[len(m.stack)-1]
	m.stack = m.stack[:len(m.stack)-1]
	return v
}

// hold answers false for a number, which nothing holds.
func hold(held map[string]*modelObj, name string, v any) bool {
	switch v := v.(type) {
	case nil:
		delete(held, name)
	case *modelObj:
		held[name] = v
	default:
		return false
	}
	return true
}

// run does one instruction, also when it tells a refusal at the end.
func (m *modelMachine) run(i impl.Instr) int64 {
	m.pc++
	switch i.Kind {
	case 1:
		m.push(i.N)
	case 2:
		m.push(nil)
	case 3:
		m.pushHeld(m.globals[i.Name])
	case 4:
		if !hold(m.globals, i.Name, m.pop()) {
			return 2
		}
	case 5:
		o, ok := m.pop().(*modelObj)
		if !ok {
			return 2
		}
		m.pushHeld(o.fields[i.Name])
	case 6:
		second := m.pop()
		first, ok := m.pop().(*modelObj)
		if !ok || !hold(first.fields, i.Name, second) {
			return 2
		}
	case 7:
		m.push(m.wrapping(nil))
	case 8, 9:
		return m.runOnNumbers(i)
	case 10:
		m.pc = i.N
	case 11:
		if v := m.pop(); v == nil || v == int64(0) {
			m.pc = i.N
		}
	case 12:
		v := m.pop()
		m.push(v)
		m.push(v)
	case 13:
		m.pop()
	case 14:
		n, ok := m.pop().(int64)
		m.out = append(m.out, n)
		if !ok {
			return 2
		}
	case 15:
		return 0
	}
	if !m.hasRoom() || len(m.out) > 20 {
		return 4
	}
	return 7
}

func (m *modelMachine) runOnNumbers(i impl.Instr) int64 {
	b, is := m.pop().(int64)
	a, ok := m.pop().(int64)
	if !is || !ok {
		return 2
	}
	if i.Kind == 8 {
		m.push(a + b)
		if a+b > 1000000 || a+b < -1000000 {
			return 6
		}
	} else if a < b {
		m.push(int64(1))
	} else {
		m.push(int64(0))
	}
	return 7
}

// steppedIn tells a step anew.
func steppedIn(h impl.Heap, p []impl.Instr, f impl.Frame) (impl.Heap, impl.Frame, int64) {
	depths, ok := depthsIn(p)
	if !ok || !isRight(h) || !isFrame(h, depths, f) {
		return impl.Heap{}, impl.Frame{}, 1
	}
	m := machineOf(h, f)
	if code := m.run(p[f.Pc]); code != 7 {
		return h, f, code
	}
	return m.heap(), m.frame(), 7
}

// asksStep holds a step against the telling above, and, of one that goes on,
// asks for what promise 13 says of the stack.
func asksStep(t *testing.T, h impl.Heap, p []impl.Instr, f impl.Frame) (impl.Heap, impl.Frame, int64) {
	t.Helper()
	want, next, code := steppedIn(h, p, f)
	after, got, is := impl.VmStep(h, p, f)
	if is != code || !sameHeap(after, want) || !sameFrame(got, next) {
		t.Fatalf("%+v\n%s: %+v:\n%d %+v %+v, want\n%d %+v %+v", h, progShown(p), f, is, got, after, code, next, want)
	}
	depths, _ := depthsIn(p)
	if code == impl.VmGo && (depths[got.Pc] != int64(len(got.Stack)) || !isRight(after) || !isFrame(after, depths, got)) {
		t.Fatalf("%s: %+v leads to %+v %+v", progShown(p), f, got, after)
	}
	return after, got, code
}

// asksRun holds a run against its steps, one by one.
func asksRun(t *testing.T, h impl.Heap, p []impl.Instr, fuel int64) (impl.Heap, impl.Frame, int64) {
	t.Helper()
	want, at, code := h, impl.Frame{}, int64(impl.VmFuel)
	for range fuel {
		after, next, is := asksStep(t, want, p, at)
		want, at = after, next
		if is != impl.VmGo {
			code = is
			break
		}
	}
	after, got, is := impl.VmRun(h, p, fuel)
	if is != code || !sameHeap(after, want) || !sameFrame(got, at) {
		t.Fatalf("%+v\n%s: fuel %d:\n%d %+v %+v, want\n%d %+v %+v", h, progShown(p), fuel, is, got, after, code, at, want)
	}
	return after, got, code
}

// noStep and noRun ask for the answers that are fixed for what is not right.
func noStep(t *testing.T, what string, h impl.Heap, p []impl.Instr, f impl.Frame) {
	t.Helper()
	if after, got, code := impl.VmStep(h, p, f); code != impl.VmForm || !sameHeap(after, impl.Heap{}) || !sameFrame(got, impl.Frame{}) {
		t.Errorf("%s: %+v: step: %d %+v %+v", what, f, code, got, after)
	}
}

func noRun(t *testing.T, what string, h impl.Heap, p []impl.Instr, fuel int64) {
	t.Helper()
	if after, got, code := impl.VmRun(h, p, fuel); code != impl.VmForm || !sameHeap(after, impl.Heap{}) || !sameFrame(got, impl.Frame{}) {
		t.Errorf("%s: fuel %d: run: %d %+v %+v", what, fuel, code, got, after)
	}
}

// noProg asks for all that is fixed for a program that is not right.
func noProg(t *testing.T, what string, p []impl.Instr) {
	t.Helper()
	if depths, ok := impl.DepthsOf(p); ok || len(depths) > 0 || impl.ProgOk(p) || impl.ProgText(p) != "" {
		t.Errorf("%s: %v %v %q", what, depths, ok, impl.ProgText(p))
	}
	for pc := range int64(3) {
		noStep(t, what, impl.HeapNew(), p, frame(pc, nil))
		noStep(t, what, impl.HeapNew(), p, frame(pc, nil, vNum(1)))
	}
	for _, fuel := range []int64{0, 1, 200} {
		noRun(t, what, impl.HeapNew(), p, fuel)
	}
}

func TestConstantsOfMachine(t *testing.T) {
	for word, kind := range map[string]int64{"num": impl.InNum, "nil": impl.InNil, "load": impl.InLoad, "store": impl.InStore, "get": impl.InGet, "set": impl.InSet, "new": impl.InNew, "add": impl.InAdd, "less": impl.InLess, "jump": impl.InJump, "unless": impl.InUnless, "dup": impl.InDup, "pop": impl.InPop, "tell": impl.InTell, "halt": impl.InHalt} {
		if kindRows[kind].word != word {
			t.Error(word, kind)
		}
	}
	codes := []int64{impl.VmDone, impl.VmForm, impl.VmKind, impl.VmFuel, impl.VmFull, impl.VmNone, impl.VmRange, impl.VmGo}
	values := []int64{impl.VlNil, impl.VlNum, impl.VlObj}
	limits := []int64{impl.MaxProg, impl.MaxStack, impl.MaxNum, impl.MaxFuel, impl.MaxOut}
	if !slices.Equal(codes, []int64{0, 1, 2, 3, 4, 5, 6, 7}) || !slices.Equal(values, []int64{0, 1, 2}) || !slices.Equal(limits, []int64{20, 6, 1000000, 200, 20}) {
		t.Error(codes, values, limits)
	}
}

// namesOfNothing are no names.
var namesOfNothing = []string{"A", "abcdefg", "a ", " a", "a1", "1", "-1", "é", "\x00", ";", "a;", "nil ", strings.Repeat("a", 1<<16)}

func TestInstrOk(t *testing.T) {
	numbers := append(slices.Clone(idsOfNothing), 1, 2, 5, 18, 19, 20, 21, 999999, 1000000, 1000001, -999999, -1000000, -1000001, 1<<32+19)
	names := append([]string{"", "a", "z", "abcdef"}, namesOfNothing...)
	right := map[int64]int{}
	for kind := int64(-3); kind < 300; kind++ {
		for _, n := range numbers {
			for _, name := range names {
				i := impl.Instr{Kind: kind, N: n, Name: name}
				if got := impl.InstrOk(i); got != isInstr(i) {
					t.Errorf("%+v: %v", i, got)
				}
				if isInstr(i) {
					right[kind]++
				}
			}
		}
	}
	for _, kind := range append(slices.Clone(idsOfNothing), 16, 17, 1<<32+2, 1<<32+15, 256+7) {
		for _, i := range []impl.Instr{{Kind: kind}, {Kind: kind, N: 1}, {Kind: kind, Name: "a"}} {
			if impl.InstrOk(i) {
				t.Errorf("%+v is right", i)
			}
		}
	}
	if len(right) != 15 || right[impl.InNum] < 8 || right[impl.InJump] < 5 || right[impl.InLoad] != 3 || right[impl.InNil] != 1 {
		t.Error("too much alike", right)
	}
}

func TestInstrOkByHand(t *testing.T) {
	for _, c := range []struct {
		i  impl.Instr
		ok bool
	}{
		{impl.Instr{Kind: impl.InNum}, true},
		{impl.Instr{Kind: impl.InNum, N: 1000000}, true},
		{impl.Instr{Kind: impl.InNum, N: 1000001}, false},
		{impl.Instr{Kind: impl.InNum, N: -1000000}, true},
		{impl.Instr{Kind: impl.InNum, N: -1000001}, false},
		{impl.Instr{Kind: impl.InNum, N: 1, Name: "a"}, false},
		{impl.Instr{Kind: impl.InJump}, true},
		{impl.Instr{Kind: impl.InJump, N: 19}, true},
		{impl.Instr{Kind: impl.InJump, N: 20}, false},
		{impl.Instr{Kind: impl.InJump, N: -1}, false},
		{impl.Instr{Kind: impl.InJump, N: 1, Name: "a"}, false},
		{impl.Instr{Kind: impl.InUnless}, true},
		{impl.Instr{Kind: impl.InUnless, N: 19}, true},
		{impl.Instr{Kind: impl.InUnless, N: 20}, false},
		{impl.Instr{Kind: impl.InUnless, N: -1}, false},
		{impl.Instr{Kind: impl.InLoad, Name: "abcdef"}, true},
		{impl.Instr{Kind: impl.InLoad, Name: "abcdefg"}, false},
		{impl.Instr{Kind: impl.InLoad}, false},
		{impl.Instr{Kind: impl.InStore, Name: "a", N: 1}, false},
		{impl.Instr{Kind: impl.InGet, Name: "nil"}, true},
		{impl.Instr{Kind: impl.InSet, Name: "A"}, false},
		{impl.Instr{Kind: impl.InNil, N: 1}, false},
		{impl.Instr{Kind: impl.InHalt, Name: "a"}, false},
		{impl.Instr{Kind: impl.InHalt}, true},
		{impl.Instr{}, false},
		{impl.Instr{Kind: 16}, false},
	} {
		if impl.InstrOk(c.i) != c.ok || isInstr(c.i) != c.ok {
			t.Errorf("%+v: %v %v, want %v", c.i, impl.InstrOk(c.i), isInstr(c.i), c.ok)
		}
	}
}

func TestDepthsByHand(t *testing.T) {
	for text, want := range map[string][]int64{
		"halt":   {0},
		"jump 0": {0},
		"num 1; pop; nil; pop; load a; pop; new; pop; halt":                         {0, 1, 0, 1, 0, 1, 0, 1, 0},
		"nil; store a; nil; get x; pop; nil; nil; set x; halt":                      {0, 1, 0, 1, 1, 0, 1, 2, 0},
		"num 1; dup; add; num 2; less; tell; halt":                                  {0, 1, 2, 1, 2, 1, 0},
		"nil; unless 3; nil; halt":                                                  nil,
		"nil; unless 4; nil; pop; halt":                                             {0, 1, 0, 1, 0},
		"nil; unless 2; halt":                                                       {0, 1, 0},
		"nil; unless 0; halt":                                                       {0, 1, 0},
		"num 3; dup; tell; num -1; add; dup; unless 8; jump 1; pop; halt":           {0, 1, 2, 1, 2, 1, 2, 1, 1, 0},
		"nil; nil; nil; nil; nil; nil; halt":                                        {0, 1, 2, 3, 4, 5, 6},
		"nil; nil; nil; nil; nil; nil; nil; halt":                                   nil,
		"nil; dup; dup; dup; dup; dup; halt":                                        {0, 1, 2, 3, 4, 5, 6},
		"nil; dup; dup; dup; dup; dup; dup; halt":                                   nil,
		"new; new; new; new; new; new; get x; store a; add; halt":                   {0, 1, 2, 3, 4, 5, 6, 6, 5, 4},
		"load a; load a; load a; load a; load a; load a; load a; halt":              nil,
		"num 1; num 1; num 1; num 1; num 1; num 1; num 1; pop; halt":                nil,
		"new; new; new; new; new; new; new; pop; halt":                              nil,
		"jump 2; add; halt":                                                         {0, -1, 0},
		"jump 1; halt; add; add; set x; nil; nil; nil; nil; nil; nil; nil; jump 19": {0, 0, -1, -1, -1, -1, -1, -1, -1, -1, -1, -1, -1},
		"halt; nil":                                       {0, -1},
		"halt; jump 19":                                   {0, -1},
		"halt; unless 19":                                 {0, -1},
		"halt; nil; jump 0":                               {0, -1, -1},
		"jump 3; nil; halt; jump 2":                       {0, -1, 0, 0},
		"jump 3; nil; halt; jump 1":                       {0, 0, 1, 0},
		"nil; jump 3; nil; pop; halt":                     {0, 1, -1, 1, 0},
		"nil; unless 4; nil; jump 5; nil; pop; halt":      {0, 1, 0, 1, 0, 1, 0},
		"nil; unless 4; nil; jump 6; nil; nil; pop; halt": nil,
		"nil; dup; unless 3; jump 1":                      {0, 1, 2, 1},
		"nil; dup; unless 2; halt":                        nil,
		"nil; jump 0; halt":                               nil,
		"nil; pop; jump 0":                                {0, 1, 0},
		"nil":                                             nil,
		"nil; pop":                                        nil,
		"nil; unless 1; halt":                             nil,
		"jump 1":                                          nil,
		"jump 2; halt":                                    nil,
		"jump 1; halt":                                    {0, 0},
		"nil; unless 3; halt":                             nil,
		"nil; unless 0":                                   nil,
		"pop; halt":                                       nil,
		"store a; halt":                                   nil,
		"tell; halt":                                      nil,
		"unless 1; halt":                                  nil,
		"dup; halt":                                       nil,
		"get a; halt":                                     nil,
		"nil; set a; halt":                                nil,
		"nil; add; halt":                                  nil,
		"nil; less; halt":                                 nil,
		"set a; halt":                                     nil,
		"add; halt":                                       nil,
		"less; halt":                                      nil,
		"jump 19; " + strings.Repeat("add; ", 17) + "add; halt":                                           append(append([]int64{0}, slices.Repeat([]int64{-1}, 18)...), 0),
		"nil; unless 19; jump 0; " + strings.Repeat("set x; ", 15) + "add; halt":                          append(append([]int64{0, 1, 0}, slices.Repeat([]int64{-1}, 16)...), 0),
		"jump 19; " + strings.Repeat("add; ", 17) + "halt":                                                nil,
		"nil; unless 2; nil; unless 4; nil; unless 6; nil; unless 8; nil; unless 10; halt":                {0, 1, 0, 1, 0, 1, 0, 1, 0, 1, 0},
		"nil; unless 10; nil; unless 10; nil; unless 10; nil; unless 10; nil; unless 10; halt":            {0, 1, 0, 1, 0, 1, 0, 1, 0, 1, 0},
		"nil; unless 11; nil; unless 11; nil; unless 11; nil; nil; unless 11; unless 11; unless 11; halt": nil,
	} {
		p, ok := progIn(text)
		if depths, is := impl.DepthsOf(p); !ok || is != (want != nil) || !slices.Equal(depths, want) {
			t.Errorf("%s: %v %v, want %v", text, depths, is, want)
		}
		asksProg(t, p)
		asksText(t, text)
	}
}

func TestLengthsOfPrograms(t *testing.T) {
	for n := range 40 {
		halts := slices.Repeat([]impl.Instr{{Kind: impl.InHalt}}, n)
		if asksProg(t, halts) != (1 <= n && n <= 20) {
			t.Error(n)
		}
		if n == 0 || n > 20 {
			noProg(t, fmt.Sprint(n, " halts"), halts)
			asksText(t, progShown(halts))
		}
		if n == 0 {
			continue
		}
		var loop []impl.Instr
		for len(loop)+2 < n {
			loop = append(loop, impl.Instr{Kind: impl.InNum, N: int64(n)}, impl.Instr{Kind: impl.InPop})
		}
		loop = append(loop, impl.Instr{Kind: impl.InJump})
		if asksProg(t, loop) != (len(loop) <= 20) {
			t.Error(n)
		}
	}
	noProg(t, "very many", slices.Repeat([]impl.Instr{{Kind: impl.InHalt}}, 1<<20))
	noProg(t, "none", []impl.Instr{})
}

// One that is not right makes the program so, wherever it stands.
func TestProgramsWithWrongInstrs(t *testing.T) {
	for _, wrong := range []impl.Instr{
		{}, {Kind: 16}, {Kind: -1}, {Kind: math.MinInt64}, {Kind: 1<<32 + 15}, {Kind: impl.InHalt, N: 1}, {Kind: impl.InHalt, Name: "a"}, {Kind: impl.InNum, N: 1000001}, {Kind: impl.InNum, N: -1000001},
		{Kind: impl.InNum, Name: "a"}, {Kind: impl.InJump, N: 20}, {Kind: impl.InJump, N: -1}, {Kind: impl.InUnless, N: 20}, {Kind: impl.InUnless, N: math.MinInt64}, {Kind: impl.InJump, N: 1 << 32}, {Kind: impl.InLoad}, {Kind: impl.InStore, Name: "A"}, {Kind: impl.InGet, Name: "a", N: 1}, {Kind: impl.InSet, Name: "abcdefg"},
	} {
		for n := 1; n <= 20; n++ {
			for at := range n {
				p := slices.Repeat([]impl.Instr{{Kind: impl.InHalt}}, n)
				p[at] = wrong
				if asksProg(t, p) {
					t.Errorf("%+v at %d of %d", wrong, at, n)
				}
			}
		}
		noProg(t, fmt.Sprint(wrong), []impl.Instr{{Kind: impl.InHalt}, wrong})
		noProg(t, fmt.Sprint(wrong), []impl.Instr{wrong, {Kind: impl.InHalt}})
	}
}

// Every place of programs of every length as where an InJump or InUnless leads.
func TestPlacesOfJumps(t *testing.T) {
	for n := 3; n <= 20; n++ {
		for to := range int64(22) {
			jump := slices.Repeat([]impl.Instr{{Kind: impl.InHalt}}, n)
			jump[0] = impl.Instr{Kind: impl.InJump, N: to}
			if asksProg(t, jump) != (to < int64(n)) {
				t.Error(n, to)
			}
			unless := slices.Repeat([]impl.Instr{{Kind: impl.InHalt}}, n)
			unless[0] = impl.Instr{Kind: impl.InNil}
			unless[1] = impl.Instr{Kind: impl.InUnless, N: to}
			if asksProg(t, unless) != (to < int64(n) && to != 1) {
				t.Error(n, to)
			}
			last := slices.Repeat([]impl.Instr{{Kind: impl.InNum, N: 1}, {Kind: impl.InPop}}, n/2)
			last = append(last, impl.Instr{Kind: impl.InJump, N: to})
			if asksProg(t, last) != (to < int64(len(last)) && to%2 == 0 && len(last) <= 20) {
				t.Error(len(last), to)
			}
		}
	}
}

// fewInstrs have every Kind, and places on both sides of a program's end.
func fewInstrs() []impl.Instr {
	var l []impl.Instr
	for kind := int64(1); kind <= 15; kind++ {
		i := impl.Instr{Kind: kind}
		switch kindRows[kind].names {
		case "w":
			i.Name = "a"
		case "p":
			for n := range int64(5) {
				l = append(l, impl.Instr{Kind: kind, N: n})
			}
			continue
		}
		l = append(l, i)
	}
	return append(l, impl.Instr{Kind: impl.InNum, N: -5}, impl.Instr{})
}

func TestAllProgramsOfFewInstrs(t *testing.T) {
	right, dead := 0, 0
	all := fewInstrs()
	for n := range 5 {
		each(all, n, func(p []impl.Instr) {
			if asksProg(t, p) {
				right++
				if depths, _ := depthsIn(p); slices.Contains(depths, -1) {
					dead++
				}
			}
		})
	}
	if right < 10000 || dead < 2000 {
		t.Error("too much alike", right, dead)
	}
}

// anyKinds are for programs with numbers and objects, with numbers, and with
// objects alone: the last two are seldom refused for a value's kind.
var anyKinds = [][]int64{
	{1, 1, 2, 3, 3, 3, 4, 4, 5, 5, 6, 6, 7, 7, 8, 8, 9, 9, 10, 11, 11, 12, 12, 13, 14, 14, 15},
	{1, 1, 1, 8, 8, 9, 10, 11, 12, 12, 13, 14, 14, 14, 15},
	{2, 3, 3, 4, 4, 5, 6, 6, 7, 7, 7, 10, 11, 12, 12, 13, 15},
}

// anyProg is right. Its places have depths as if each one came behind the one
// ahead; jumps lead to such as have theirs.
func anyProg(r *rand.Rand) []impl.Instr {
	var p []impl.Instr
	var depths []int
	depth := 0
	names := strings.Split("abcdxy", "")
	kinds := anyKinds[r.Intn(len(anyKinds))]
	for n := r.Intn(20); len(p) < n; {
		kind := kinds[r.Intn(len(kinds))]
		row := kindRows[kind]
		after := depth - row.takes + row.gives
		if depth < row.takes || after > 6 || kind == 15 && r.Intn(4) > 0 {
			continue
		}
		i := impl.Instr{Kind: kind}
		if row.names == "w" {
			i.Name = names[r.Intn(4)]
			if kind == 5 || kind == 6 {
				i.Name = names[4+r.Intn(2)]
			}
		}
		if kind == 1 {
			i.N = []int64{0, 0, 1, 1, 2, -1, 7, 500000, -500001, 1000000, -1000000}[r.Intn(11)]
		}
		p, depths = append(p, i), append(depths, depth)
		depth = after
	}
	p, depths = append(p, impl.Instr{Kind: impl.InHalt}), append(depths, depth)
	for at, i := range p {
		if kindRows[i.Kind].names != "p" {
			continue
		}
		var places []int64
		for to, d := range depths {
			if d == depths[at]-kindRows[i.Kind].takes {
				places = append(places, int64(to))
			}
		}
		p[at].N = places[r.Intn(len(places))]
	}
	return p
}

func TestManyPrograms(t *testing.T) {
	r := rand.New(rand.NewSource(130))
	kinds, lengths, wrong := map[int64]int{}, map[int]int{}, 0
	for range 4000 {
		p := anyProg(r)
		if !asksProg(t, p) {
			t.Fatal(progShown(p), "is not right")
		}
		lengths[len(p)]++
		for _, i := range p {
			kinds[i.Kind]++
		}
		for range 5 {
			other := slices.Clone(p)
			at := r.Intn(len(other))
			other[at] = anyProg(r)[0]
			if r.Intn(2) == 0 {
				other[at] = impl.Instr{Kind: int64(10 + r.Intn(2)), N: int64(r.Intn(21))}
			}
			if !asksProg(t, other) {
				wrong++
			}
		}
	}
	if len(kinds) != 15 || len(lengths) != 20 || wrong < 3000 {
		t.Error("too much alike", kinds, lengths, wrong)
	}
}

func TestProgTextsByHand(t *testing.T) {
	for text, p := range map[string][]impl.Instr{
		"halt": {{Kind: impl.InHalt}},
		"num 1000000; num -1000000; add; tell; halt":                             {{Kind: 1, N: 1000000}, {Kind: 1, N: -1000000}, {Kind: 8}, {Kind: 14}, {Kind: 15}},
		"num 0; unless 4; new; jump 5; halt; store abcdef; jump 0":               {{Kind: 1}, {Kind: 11, N: 4}, {Kind: 7}, {Kind: 10, N: 5}, {Kind: 15}, {Kind: 4, Name: "abcdef"}, {Kind: 10}},
		"nil; load a; pop; dup; num 7; num 8; less; pop; pop; pop; halt":         {{Kind: 2}, {Kind: 3, Name: "a"}, {Kind: 13}, {Kind: 12}, {Kind: 1, N: 7}, {Kind: 1, N: 8}, {Kind: 9}, {Kind: 13}, {Kind: 13}, {Kind: 13}, {Kind: 15}},
		"load halt; get nil; load num; set z; jump 0":                            {{Kind: 3, Name: "halt"}, {Kind: 5, Name: "nil"}, {Kind: 3, Name: "num"}, {Kind: 6, Name: "z"}, {Kind: 10}},
		"halt; " + strings.Repeat("store abcdef; ", 18) + "num -1000000":         append(append([]impl.Instr{{Kind: 15}}, slices.Repeat([]impl.Instr{{Kind: 4, Name: "abcdef"}}, 18)...), impl.Instr{Kind: 1, N: -1000000}),
		strings.Repeat("load abcdef; store abcdef; ", 9) + "jump 19; jump 0":     append(slices.Repeat([]impl.Instr{{Kind: 3, Name: "abcdef"}, {Kind: 4, Name: "abcdef"}}, 9), impl.Instr{Kind: 10, N: 19}, impl.Instr{Kind: 10}),
		strings.Repeat("num -1000000; store abcdef; ", 9) + "num -1000000; halt": append(slices.Repeat([]impl.Instr{{Kind: 1, N: -1000000}, {Kind: 4, Name: "abcdef"}}, 9), impl.Instr{Kind: 1, N: -1000000}, impl.Instr{Kind: 15}),
	} {
		if got := impl.ProgText(p); got != text {
			t.Errorf("%q, want %q", got, text)
		}
		if got, ok := impl.ReadProg(text); !ok || !slices.Equal(got, p) {
			t.Errorf("%q: %v %v", text, got, ok)
		}
		asksProg(t, p)
		asksText(t, text)
	}
}

// The longest text of all: every instruction as long as can be, but for the one
// behind which no next one comes.
func TestLongestProgText(t *testing.T) {
	text := strings.Repeat("num -1000000; store zzzzzz; ", 9) + "jump 10; store zzzzzz"
	p := program(t, text)
	if len(text) != 273 || len(p) != 20 || !asksText(t, text) {
		t.Error(len(text), len(p))
	}
}

func TestTextsThatAreNoPrograms(t *testing.T) {
	for _, text := range []string{
		"", " ", ";", "; ", "halt;", "halt; ", " halt", "halt ", "; halt", ";halt", "halt;halt", "halt;  halt", "halt ; halt", "halt;; halt", "halt; ; halt", "halt halt", "halt, halt", "halt;\thalt", "halt\n", "halt;\nhalt", "halt\x00",
		"Halt", "HALT", "hal", "haltt", "stop", "fly; halt", "num; halt", "num ; halt", "nul; halt", "noop", "0", "15", "none; halt", "unset a; halt",
		"num 02; halt", "num +2; halt", "num -0; halt", "num 00; halt", "num -02; halt", "num --2; halt", "num 2-; halt", "num - 2; halt", "num -; halt", "num  2; halt", "num 2 ; halt", "num 1 2; halt", "num a; halt", "num 2a; halt", "num 0x1; halt", "num 1e3; halt", "num 1_0; halt", "num 1.0; halt", "num 1,0; halt",
		"num 1000001; halt", "num -1000001; halt", "num 9223372036854775807; halt", "num 9223372036854775808; halt", "num 18446744073709551617; halt", "num 99999999999999999999999; halt", "num -9223372036854775809; halt", "num 10000000; halt", "num \xd9\xa1; halt",
		"load; halt", "load ; halt", "load A; pop; halt", "load abcdefg; pop; halt", "load a b; pop; halt", "load 1; pop; halt", "load  a; pop; halt", "loada; pop; halt", "load a1; pop; halt", "load a;pop; halt",
		"nil 1; halt", "nil a; halt", "nil ; halt", "halt 0", "halt a", "pop 1; halt", "num 1; pop 1; halt", "new a; halt", "jump; halt", "jump a; halt", "jump 01; halt", "jump -1; halt", "jump +1; halt", "jump -0; halt", "jump 20; halt", "jump 2; halt", "jump 18446744073709551616; halt", "unless 1; halt", "nil; unless; halt", "nil; unless 3; halt", "nil; unless 20; halt", "nil; unless 02; halt",
		"add; halt", "nil", "nil; jump 0; halt", "nil; nil; nil; nil; nil; nil; nil; halt",
		strings.Repeat("halt; ", 20) + "halt", strings.Repeat("halt; ", 1<<16), strings.Repeat("halt; ", 1<<16) + "halt", strings.Repeat(" ", 1<<20), strings.Repeat("n", 1<<20), "num " + strings.Repeat("1", 1<<20), "num " + strings.Repeat("-", 1<<10), "num " + strings.Repeat("0", 200) + "1; halt", "load " + strings.Repeat("a", 1<<20), strings.Repeat(";", 200),
	} {
		if p, ok := impl.ReadProg(text); ok || len(p) > 0 {
			t.Errorf("%.40q: %v", text, p)
		}
		if len(text) < 1000 && asksText(t, text) {
			t.Errorf("%.40q", text)
		}
	}
}

// Every text one byte away from that of some programs.
func TestTextsNextToPrograms(t *testing.T) {
	right, wrong := 0, 0
	for _, text := range []string{"halt", "num 2; num -3; add; tell; halt", "nil; unless 2; jump 0", "load ab; store c; jump 5; nil; pop; halt", "nil; unless 11; jump 11; add; nil; add; pop; add; add; add; add; halt", "new; dup; get x; set y; halt", "num 0; pop; num 100000; pop; jump 0"} {
		program(t, text)
		for at := range len(text) + 1 {
			var others []string
			for b := range 256 {
				sign := string([]byte{byte(b)})
				others = append(others, text[:at]+sign+text[at:])
				if at < len(text) {
					others = append(others, text[:at]+sign+text[at+1:])
				}
			}
			if at < len(text) {
				others = append(others, text[:at]+text[at+1:], text[:at])
			}
			for _, other := range others {
				if asksText(t, other) {
					right++
				} else {
					wrong++
				}
			}
		}
	}
	if right < 500 || wrong < 50000 {
		t.Error("too much alike", right, wrong)
	}
}

// steps asks for what comes of one step, which is known by hand.
func steps(t *testing.T, h impl.Heap, text string, f impl.Frame, want impl.Frame) impl.Heap {
	t.Helper()
	after, got, code := asksStep(t, h, program(t, text), f)
	if code != impl.VmGo || !sameFrame(got, want) {
		t.Errorf("%s: %+v: %d %+v, want %+v", text, f, code, got, want)
	}
	return after
}

// stops asks for the code, and for heap and frame as they were.
func stops(t *testing.T, h impl.Heap, text string, f impl.Frame, want int64) {
	t.Helper()
	after, got, code := asksStep(t, h, program(t, text), f)
	if code != want || !sameFrame(got, f) || !sameHeap(after, h) {
		t.Errorf("%s: %+v: %d %+v %+v, want %d", text, f, code, got, after, want)
	}
}

// runs asks for what comes of a run, which is known by hand.
func runs(t *testing.T, h impl.Heap, text string, fuel int64, code int64, want impl.Frame) impl.Heap {
	t.Helper()
	after, got, is := asksRun(t, h, program(t, text), fuel)
	if is != code || !sameFrame(got, want) {
		t.Errorf("%s: fuel %d: %d %+v, want %d %+v", text, fuel, is, got, code, want)
	}
	return after
}

func TestStepsByHand(t *testing.T) {
	h := smallHeap()
	out := []int64{5, -1000000}
	steps(t, h, "num -7; halt", frame(0, out), frame(1, out, vNum(-7)))
	steps(t, h, "nil; halt", frame(0, nil), frame(1, nil, vNil()))
	steps(t, h, "load e; halt", frame(0, nil), frame(1, nil, vObj(4)))
	steps(t, h, "load ea; halt", frame(0, nil), frame(1, nil, vObj(7)))
	steps(t, h, "load x; halt", frame(0, nil), frame(1, nil, vNil()))
	steps(t, h, "load doc; halt", frame(0, nil), frame(1, nil, vNil()))
	steps(t, h, "nil; get x; halt", frame(1, nil, vObj(4)), frame(2, nil, vObj(5)))
	steps(t, h, "nil; get ab; halt", frame(1, nil, vObj(2)), frame(2, nil, vObj(2)))
	steps(t, h, "nil; get z; halt", frame(1, nil, vObj(4)), frame(2, nil, vNil()))
	steps(t, h, "nil; get d; halt", frame(1, nil, vObj(5)), frame(2, nil, vNil()))
	steps(t, h, "nil; nil; add; halt", frame(2, out, vNum(3), vNum(-5)), frame(3, out, vNum(-2)))
	steps(t, h, "nil; nil; less; halt", frame(2, nil, vNum(3), vNum(4)), frame(3, nil, vNum(1)))
	steps(t, h, "nil; nil; less; halt", frame(2, nil, vNum(4), vNum(3)), frame(3, nil, vNum(0)))
	steps(t, h, "nil; nil; less; halt", frame(2, nil, vNum(4), vNum(4)), frame(3, nil, vNum(0)))
	steps(t, h, "nil; nil; less; halt", frame(2, nil, vNum(-4), vNum(3)), frame(3, nil, vNum(1)))
	steps(t, h, "jump 2; halt; jump 1", frame(0, out), frame(2, out))
	steps(t, h, "jump 2; halt; jump 1", frame(2, nil), frame(1, nil))
	steps(t, h, "jump 0", frame(0, nil), frame(0, nil))
	steps(t, h, "nil; dup; halt", frame(1, nil, vObj(9-2)), frame(2, nil, vObj(7), vObj(7)))
	steps(t, h, "nil; nil; dup; halt", frame(2, nil, vNum(1), vNil()), frame(3, nil, vNum(1), vNil(), vNil()))
	steps(t, h, "nil; nil; pop; halt", frame(2, nil, vNum(1), vNum(2)), frame(3, nil, vNum(1)))
	steps(t, h, "nil; nil; tell; halt", frame(2, out, vNum(1), vNum(2)), frame(3, []int64{5, -1000000, 2}, vNum(1)))
	stops(t, h, "halt", frame(0, nil), impl.VmDone)
	stops(t, h, "nil; num 1; halt", frame(2, out, vObj(2), vNum(1)), impl.VmDone)
}

func TestUnless(t *testing.T) {
	h := smallHeap()
	text := "nil; nil; unless 4; halt; halt"
	for _, c := range []struct {
		v    impl.Val
		goes int64
	}{{vNil(), 4}, {vNum(0), 4}, {vNum(1), 3}, {vNum(-1), 3}, {vNum(1000000), 3}, {vObj(2), 3}, {vObj(4), 3}} {
		steps(t, h, text, frame(2, nil, vNum(8), c.v), frame(c.goes, nil, vNum(8)))
		steps(t, h, text, frame(2, nil, vNil(), c.v), frame(c.goes, nil, vNil()))
	}
	steps(t, h, "nil; unless 2; halt", frame(1, nil, vNum(0)), frame(2, nil))
	steps(t, h, "nil; unless 0; halt", frame(1, nil, vNil()), frame(0, nil))
	steps(t, h, "nil; unless 0; halt", frame(1, nil, vNum(5)), frame(2, nil))
}

func TestStore(t *testing.T) {
	h := smallHeap()
	text := "nil; nil; store e; nil; store new; halt"
	after := steps(t, h, text, frame(2, nil, vNum(1), vObj(5)), frame(3, nil, vNum(1)))
	if global(after, "e") != 5 || len(after.Globals) != 4 || after.Next != h.Next {
		t.Error(after)
	}
	after = steps(t, h, text, frame(2, nil, vNum(1), vNil()), frame(3, nil, vNum(1)))
	if _, ok := impl.GlobalOf(after, "e"); ok || len(after.Globals) != 3 || global(after, "z") != 4 || len(after.Objs) != 4 {
		t.Error("nil into a name that holds", after)
	}
	after = steps(t, h, text, frame(4, nil, vNum(1), vObj(5)), frame(5, nil, vNum(1)))
	if global(after, "new") != 5 || len(after.Globals) != 5 || after.Globals[3].Name != "new" {
		t.Error("a new name", after)
	}
	if after = steps(t, h, text, frame(4, nil, vNum(1), vNil()), frame(5, nil, vNum(1))); !sameHeap(after, h) {
		t.Error("nil into a name that holds none", after)
	}
	for _, n := range []int64{0, 1, -1, 4, 1000000} {
		stops(t, h, text, frame(2, nil, vNum(1), vNum(n)), impl.VmKind)
		stops(t, h, text, frame(4, nil, vNil(), vNum(n)), impl.VmKind)
	}
}

func TestSetAndGet(t *testing.T) {
	h := smallHeap()
	text := "nil; nil; nil; set x; get x; halt"
	after := steps(t, h, text, frame(3, nil, vObj(4), vObj(4), vObj(7)), frame(4, nil, vObj(4)))
	if id, ok := impl.FieldOf(after, "e", "x"); !ok || id != 7 {
		t.Error("the first one's field holds the second", after)
	}
	steps(t, after, text, frame(4, nil, vObj(4)), frame(5, nil, vObj(7)))
	after = steps(t, h, text, frame(3, nil, vObj(2), vObj(2), vObj(2)), frame(4, nil, vObj(2)))
	if id, _ := impl.FieldOf(after, "d", "x"); id != 2 || len(after.Objs[0].Fields) != 4 || after.Objs[0].Fields[3].Name != "x" {
		t.Error("a new field", after)
	}
	after = steps(t, h, text, frame(3, nil, vObj(4), vObj(4), vNil()), frame(4, nil, vObj(4)))
	if _, ok := impl.FieldOf(after, "e", "x"); ok || len(after.Objs) != 4 || len(after.Objs[1].Fields) != 0 {
		t.Error("a field set to nil", after)
	}
	steps(t, after, text, frame(4, nil, vObj(4)), frame(5, nil, vNil()))
	if after = steps(t, h, text, frame(3, nil, vNil(), vObj(7), vNil()), frame(4, nil, vNil())); !sameHeap(after, h) {
		t.Error("a field that is not there set to nil", after)
	}
	for _, c := range [][2]impl.Val{
		{vObj(4), vNum(1)}, {vObj(4), vNum(0)}, {vObj(4), vNum(4)}, {vNil(), vObj(4)}, {vNum(4), vObj(4)}, {vNil(), vNil()},
		{vNum(0), vNil()}, {vNum(1), vNum(1)}, {vNil(), vNum(1)},
	} {
		stops(t, h, text, frame(3, nil, vObj(4), c[0], c[1]), impl.VmKind)
	}
	for _, v := range []impl.Val{vNil(), vNum(0), vNum(4), vNum(-1)} {
		stops(t, h, text, frame(4, nil, v), impl.VmKind)
	}
}

func TestNewObjects(t *testing.T) {
	h := smallHeap()
	after := steps(t, h, "nil; new; halt", frame(1, nil, vNum(3)), frame(2, nil, vNum(3), vObj(11)))
	if after.Next != 12 || len(after.Objs) != 5 || after.Objs[4].Id != 11 || after.Objs[4].Node != 0 || len(after.Objs[4].Fields) != 0 || !slices.Equal(after.Globals, h.Globals) {
		t.Error(after)
	}
	after = runs(t, impl.HeapNew(), "new; new; new; pop; halt", 9, impl.VmDone, frame(4, nil, vObj(2), vObj(3)))
	if after.Next != 5 || len(after.Objs) != 3 || !slices.Equal(impl.Reached(after), []int64{1}) {
		t.Error(after)
	}
}

func TestNumbersAreWanted(t *testing.T) {
	h := smallHeap()
	others := []impl.Val{vNil(), vObj(2), vObj(4)}
	for _, word := range []string{"add", "less"} {
		text := "nil; nil; " + word + "; halt"
		for _, v := range others {
			stops(t, h, text, frame(2, nil, v, vNum(1)), impl.VmKind)
			stops(t, h, text, frame(2, nil, vNum(0), v), impl.VmKind)
			stops(t, h, text, frame(2, nil, v, v), impl.VmKind)
			stops(t, h, text, frame(2, nil, vNum(1000000), v), impl.VmKind)
		}
	}
	for _, v := range others {
		stops(t, h, "nil; tell; halt", frame(1, nil, v), impl.VmKind)
		stops(t, h, "nil; tell; halt", frame(1, slices.Repeat([]int64{1}, 20), v), impl.VmKind)
	}
}

func TestSums(t *testing.T) {
	text := "nil; nil; add; halt"
	for _, c := range []struct {
		a, b int64
		code int64
	}{
		{999999, 1, impl.VmGo}, {1000000, 0, impl.VmGo}, {1000000, 1, impl.VmRange}, {1, 1000000, impl.VmRange}, {1000000, 1000000, impl.VmRange}, {500000, 500000, impl.VmGo}, {500001, 500000, impl.VmRange},
		{-999999, -1, impl.VmGo}, {-1000000, 0, impl.VmGo}, {-1000000, -1, impl.VmRange}, {-1, -1000000, impl.VmRange}, {-1000000, -1000000, impl.VmRange}, {1000000, -1000000, impl.VmGo}, {0, 0, impl.VmGo},
	} {
		f := frame(2, []int64{1}, vNum(c.a), vNum(c.b))
		if c.code == impl.VmGo {
			steps(t, impl.HeapNew(), text, f, frame(3, []int64{1}, vNum(c.a+c.b)))
		} else {
			stops(t, impl.HeapNew(), text, f, c.code)
		}
	}
	runs(t, impl.HeapNew(), "num 999999; num 1; add; tell; halt", 9, impl.VmDone, frame(4, []int64{1000000}))
	runs(t, impl.HeapNew(), "num 1000000; num 1; add; tell; halt", 9, impl.VmRange, frame(2, nil, vNum(1000000), vNum(1)))
	runs(t, impl.HeapNew(), "num 1; dup; add; jump 1", 200, impl.VmRange, frame(2, nil, vNum(524288), vNum(524288)))
}

func TestToldNumbers(t *testing.T) {
	h := impl.HeapNew()
	twenty := slices.Repeat([]int64{7}, 20)
	steps(t, h, "nil; tell; halt", frame(1, twenty[:19], vNum(-3)), frame(2, append(slices.Clone(twenty[:19]), -3)))
	stops(t, h, "nil; tell; halt", frame(1, twenty, vNum(-3)), impl.VmFull)
	steps(t, h, "nil; pop; halt", frame(1, twenty, vNum(-3)), frame(2, twenty))
	runs(t, h, "num 7; tell; jump 0", 60, impl.VmFuel, frame(0, twenty))
	runs(t, h, "num 7; tell; jump 0", 61, impl.VmFuel, frame(1, twenty, vNum(7)))
	runs(t, h, "num 7; tell; jump 0", 62, impl.VmFull, frame(1, twenty, vNum(7)))
	runs(t, h, "num 7; tell; jump 0", 200, impl.VmFull, frame(1, twenty, vNum(7)))
	runs(t, h, "num 3; num 2; num 1; tell; tell; tell; halt", 9, impl.VmDone, frame(6, []int64{1, 2, 3}))
}

// A heap that meets every limit has room for none, but for what stands in the
// place of another.
func TestNoRoomInTheHeap(t *testing.T) {
	h := fullHeap()
	stops(t, h, "new; halt", frame(0, nil), impl.VmFull)
	stops(t, h, "nil; store globai; halt", frame(1, nil, vObj(2)), impl.VmFull)
	stops(t, h, "nil; store a; halt", frame(1, nil, vObj(2)), impl.VmFull)
	stops(t, h, "nil; store a; halt", frame(1, nil, vNum(2)), impl.VmKind)
	stops(t, h, "nil; nil; set fieldf; halt", frame(2, nil, vObj(4), vObj(2)), impl.VmFull)
	stops(t, h, "nil; nil; set fieldf; halt", frame(2, nil, vObj(4), vNum(2)), impl.VmKind)
	stops(t, h, "nil; nil; set fieldf; halt", frame(2, nil, vNil(), vObj(2)), impl.VmKind)
	steps(t, h, "nil; store globah; halt", frame(1, nil, vObj(2)), frame(2, nil))
	steps(t, h, "nil; store globaa; halt", frame(1, nil, vNil()), frame(2, nil))
	steps(t, h, "nil; store a; halt", frame(1, nil, vNil()), frame(2, nil))
	steps(t, h, "nil; nil; set fielde; halt", frame(2, nil, vObj(4), vObj(6)), frame(3, nil))
	steps(t, h, "nil; nil; set fieldf; halt", frame(2, nil, vObj(4), vNil()), frame(3, nil))
	steps(t, h, "load globaa; halt", frame(0, nil), frame(1, nil, vObj(999999999)))
	steps(t, h, "nil; get fielda; halt", frame(1, nil, vObj(999999999)), frame(2, nil, vObj(2)))
}

// Each limit alone, met exactly and passed by one.
func TestLimitsOfTheMachinesHeap(t *testing.T) {
	late := impl.HeapNew()
	late.Next = 999999999
	runs(t, late, "new; new; halt", 9, impl.VmFull, frame(1, nil, vObj(999999999)))
	many := impl.HeapNew()
	for i := range int64(14) {
		many.Objs = append(many.Objs, impl.Obj{Id: 2 + i})
	}
	many.Next = 16
	if after := runs(t, many, "new; new; new; halt", 9, impl.VmFull, frame(2, nil, vObj(16), vObj(17))); len(after.Objs) != 16 {
		t.Error(after)
	}
	after := runs(t, impl.HeapNew(), "new; dup; store a; dup; store b; dup; store c; dup; store d; dup; store e; dup; store f; dup; store g; dup; store h; store i; halt", 90, impl.VmFull, frame(17, nil, vObj(2)))
	if len(after.Globals) != 8 || after.Globals[7].Name != "h" {
		t.Error(after)
	}
	after = runs(t, impl.HeapNew(), "new; store o; load o; dup; set a; load o; dup; set c; load o; dup; set b; load o; dup; set e; load o; dup; set d; halt", 90, impl.VmDone, frame(17, nil))
	if l := after.Objs[0].Fields; len(l) != 5 || l[0].Name != "a" || l[4].Name != "e" {
		t.Error(after)
	}
	runs(t, after, "load o; dup; set f; halt", 90, impl.VmFull, frame(2, nil, vObj(2), vObj(2)))
	runs(t, after, "load o; nil; set a; load o; dup; set f; halt", 90, impl.VmDone, frame(6, nil))
}

func TestRunsByHand(t *testing.T) {
	h := impl.HeapNew()
	runs(t, h, "num 2; num 3; add; tell; halt", 10, impl.VmDone, frame(4, []int64{5}))
	runs(t, h, "num 3; dup; tell; num -1; add; dup; unless 8; jump 1; pop; halt", 100, impl.VmDone, frame(9, []int64{3, 2, 1}))
	runs(t, h, "num 4; dup; tell; num -1; add; dup; unless 9; num 0; unless 1; halt", 100, impl.VmDone, frame(9, []int64{4, 3, 2, 1}, vNum(0)))
	runs(t, h, "num 0; dup; tell; num 1; add; dup; num 5; less; unless 10; jump 1; halt", 100, impl.VmDone, frame(10, []int64{0, 1, 2, 3, 4}, vNum(5)))
	runs(t, h, "nil; tell; halt", 10, impl.VmKind, frame(1, nil, vNil()))
	runs(t, h, "nil; get x; pop; halt", 10, impl.VmKind, frame(1, nil, vNil()))
	runs(t, h, "new; tell; halt", 10, impl.VmKind, frame(1, nil, vObj(2)))
	runs(t, h, "num 5; store a; halt", 10, impl.VmKind, frame(1, nil, vNum(5)))
	runs(t, h, "num 5; tell; nil; nil; less; halt", 10, impl.VmKind, frame(4, []int64{5}, vNil(), vNil()))
	after := runs(t, h, "new; store a; load a; new; set x; load a; get x; store b; nil; store a; halt", 20, impl.VmDone, frame(10, nil))
	if _, ok := impl.GlobalOf(after, "a"); ok || global(after, "b") != 3 || after.Next != 4 || len(after.Objs) != 2 {
		t.Error(after)
	}
	after = runs(t, h, "new; dup; store a; new; set x; load a; nil; set x; load a; get x; unless 13; num 1; tell; num 2; tell; halt", 20, impl.VmDone, frame(15, []int64{2}))
	if _, ok := impl.FieldOf(after, "a", "x"); ok || len(after.Objs) != 2 {
		t.Error(after)
	}
	chain := runs(t, h, "num 3; nil; store l; new; dup; load l; set n; store l; num -1; add; dup; unless 13; jump 3; pop; halt", 100, impl.VmDone, frame(14, nil))
	if global(chain, "l") != 4 || !slices.Equal(impl.Reached(chain), []int64{1, 2, 3, 4}) {
		t.Error(chain)
	}
	runs(t, chain, "num 0; load l; dup; unless 11; get n; store l; num 1; add; jump 1; halt; halt; pop; tell; halt", 100, impl.VmDone, frame(13, []int64{3}))
	runs(t, storyHeap(t), "load a; get x; get y; store e; load zz; unless 7; halt; num 1; tell; halt", 20, impl.VmDone, frame(9, []int64{1}))
}

// As many steps as there is fuel, and never one more: to be at InHalt is not yet
// to have come to an end.
func TestFuel(t *testing.T) {
	h := smallHeap()
	for _, text := range []string{"halt", "jump 0", "num 1; pop; halt", "nil; tell; halt", "num 3; dup; tell; num -1; add; dup; unless 8; jump 1; pop; halt"} {
		p := program(t, text)
		for _, fuel := range []int64{-1, 201, -2, 202, 400, math.MinInt64, math.MaxInt64, 1 << 32, 1<<32 + 1, -1 << 32} {
			noRun(t, text, h, p, fuel)
		}
		for fuel := range int64(201) {
			asksRun(t, h, p, fuel)
		}
	}
	runs(t, h, "halt", 0, impl.VmFuel, frame(0, nil))
	runs(t, h, "halt", 1, impl.VmDone, frame(0, nil))
	runs(t, h, "num 1; pop; halt", 0, impl.VmFuel, frame(0, nil))
	runs(t, h, "num 1; pop; halt", 1, impl.VmFuel, frame(1, nil, vNum(1)))
	runs(t, h, "num 1; pop; halt", 2, impl.VmFuel, frame(2, nil))
	runs(t, h, "num 1; pop; halt", 3, impl.VmDone, frame(2, nil))
	runs(t, h, "num 1; pop; halt", 200, impl.VmDone, frame(2, nil))
	runs(t, h, "nil; tell; halt", 1, impl.VmFuel, frame(1, nil, vNil()))
	runs(t, h, "nil; tell; halt", 2, impl.VmKind, frame(1, nil, vNil()))
	runs(t, h, "nil; pop; jump 0", 200, impl.VmFuel, frame(2, nil))
	runs(t, h, "jump 0", 200, impl.VmFuel, frame(0, nil))
	if after := runs(t, h, "new; store e; halt", 0, impl.VmFuel, frame(0, nil)); !sameHeap(after, h) {
		t.Error(after)
	}
	runs(t, h, "num 39; dup; unless 6; num -1; add; jump 1; pop; halt", 199, impl.VmFuel, frame(7, nil))
	runs(t, h, "num 39; dup; unless 6; num -1; add; jump 1; pop; halt", 200, impl.VmDone, frame(7, nil))
	runs(t, h, "jump 1; num 39; dup; unless 7; num -1; add; jump 2; pop; halt", 200, impl.VmFuel, frame(8, nil))
}

// Frames that are right for one program and heap but for one thing.
func TestFramesThatAreNotRight(t *testing.T) {
	h := smallHeap()
	p := program(t, "num 1; dup; tell; jump 6; add; nil; num 2; load d; halt; pop")
	told := []int64{0, 1000000, -1000000}
	for _, f := range []impl.Frame{
		frame(0, told), frame(1, nil, vNil()), frame(2, nil, vObj(2), vObj(7)), frame(3, slices.Repeat(told, 7)[:20], vNum(1000000)),
		frame(6, nil, vNum(-1000000)), frame(7, nil, vObj(4), vObj(5)), frame(8, told, vNil(), vNil(), vNum(0)),
	} {
		if !isFrame(h, []int64{0, 1, 2, 1, -1, -1, 1, 2, 3, -1}, f) {
			t.Fatal(f)
		}
		asksStep(t, h, p, f)
		for what, wrong := range map[string]func(f *impl.Frame){
			"one value more":            func(f *impl.Frame) { f.Stack = append(f.Stack, vNum(1)) },
			"six values":                func(f *impl.Frame) { f.Stack = slices.Repeat([]impl.Val{vNil()}, 6) },
			"seven values":              func(f *impl.Frame) { f.Stack = slices.Repeat([]impl.Val{vNil()}, 7) },
			"very many values":          func(f *impl.Frame) { f.Stack = make([]impl.Val, 1<<20) },
			"21 told":                   func(f *impl.Frame) { f.Out = make([]int64, 21) },
			"very many told":            func(f *impl.Frame) { f.Out = make([]int64, 1<<20) },
			"one too great told":        func(f *impl.Frame) { f.Out = []int64{1, 1000001, 1} },
			"one too small told":        func(f *impl.Frame) { f.Out = []int64{-1000001} },
			"the last of 20 out of all": func(f *impl.Frame) { f.Out = append(make([]int64, 19), math.MinInt64) },
			"the first out of all":      func(f *impl.Frame) { f.Out = []int64{math.MaxInt64, 0} },
			"no place":                  func(f *impl.Frame) { f.Pc = 10 },
			"below all places":          func(f *impl.Frame) { f.Pc = -1 },
			"far above all places":      func(f *impl.Frame) { f.Pc = math.MaxInt64 },
			"far below all places":      func(f *impl.Frame) { f.Pc = math.MinInt64 },
			"32 bits more":              func(f *impl.Frame) { f.Pc += 1 << 32 },
			"nobody comes to 4":         func(f *impl.Frame) { f.Pc = 4 },
			"nobody comes to 5":         func(f *impl.Frame) { f.Pc = 5 },
			"nobody comes to 9":         func(f *impl.Frame) { f.Pc = 9 },
			"one value less": func(f *impl.Frame) {
				if len(f.Stack) == 0 {
					f.Pc = 1
				} else {
					f.Stack = f.Stack[1:]
				}
			},
		} {
			g := frame(f.Pc, slices.Clone(f.Out), slices.Clone(f.Stack)...)
			wrong(&g)
			noStep(t, what, h, p, g)
			if _, _, code := steppedIn(h, p, g); code != impl.VmForm {
				t.Error(what, "breaks nothing")
			}
		}
		for at := range f.Stack {
			for _, v := range valuesOfNothing {
				g := frame(f.Pc, f.Out, slices.Clone(f.Stack)...)
				g.Stack[at] = v
				noStep(t, "no value", h, p, g)
			}
		}
	}
}

// valuesOfNothing are no values beside smallHeap: 1, 3, 6, 8, 9 are its nodes,
// and 10 was given to none that is there.
var valuesOfNothing = []impl.Val{
	{N: 1}, {N: -1}, {N: 4}, {N: math.MinInt64}, {Kind: 1, N: 1000001}, {Kind: 1, N: -1000001}, {Kind: 1, N: math.MaxInt64}, {Kind: 1, N: math.MinInt64},
	{Kind: 2}, {Kind: 2, N: 1}, {Kind: 2, N: 3}, {Kind: 2, N: 6}, {Kind: 2, N: 9}, {Kind: 2, N: 10}, {Kind: 2, N: 11}, {Kind: 2, N: -4}, {Kind: 2, N: 1<<32 + 4}, {Kind: 2, N: math.MaxInt64},
	{Kind: 3}, {Kind: 3, N: 4}, {Kind: -1}, {Kind: -1, N: 1}, {Kind: 7}, {Kind: 1 << 32}, {Kind: 1<<32 + 1, N: 1}, {Kind: 1<<32 + 2, N: 4}, {Kind: math.MinInt64}, {Kind: math.MaxInt64, N: 4},
}

// What the program says is right or wrong ahead of what the frame does, wherever
// that stands.
func TestStepsOfWrongPrograms(t *testing.T) {
	for _, text := range []string{"nil", "add; halt", "nil; jump 0; halt", "jump 5; halt", "nil; nil; nil; nil; nil; nil; nil; halt", "nil; unless 3; nil; halt", "halt; num 1000001", "halt; jump 20"} {
		p, _ := progIn(text)
		noProg(t, text, p)
		for pc := range int64(9) {
			for n := range 8 {
				noStep(t, text, smallHeap(), p, frame(pc, nil, slices.Repeat([]impl.Val{vNum(1)}, n)...))
			}
		}
	}
	noProg(t, "nothing", nil)
}

func TestMachineOnHeapsThatAreNotRight(t *testing.T) {
	defer endsSoon("the machine on heaps that are not right")()
	halt, loop := program(t, "halt"), program(t, "new; store a; load a; jump 1")
	heapsNotRight(func(what string, h impl.Heap) {
		for _, p := range [][]impl.Instr{halt, loop, nil} {
			noStep(t, what, h, p, frame(0, nil))
			noStep(t, what, h, p, frame(1, nil, vObj(4)))
			for _, fuel := range []int64{-1, 0, 1, 200, 201} {
				noRun(t, what, h, p, fuel)
			}
		}
	})
	noRun(t, "no heap", impl.Heap{}, halt, 5)
}

// anyFrame is right: at any place to which a run may come, with any values.
func anyFrame(r *rand.Rand, h impl.Heap, p []impl.Instr) impl.Frame {
	depths, _ := depthsIn(p)
	f := impl.Frame{}
	for f.Pc = int64(r.Intn(len(p))); depths[f.Pc] < 0; f.Pc = int64(r.Intn(len(p))) {
	}
	numbers := []int64{0, 1, -1, 2, 999999, 1000000, -999999, -1000000, 500000}
	for range depths[f.Pc] {
		switch k := r.Intn(5); {
		case k == 0:
			f.Stack = append(f.Stack, vNil())
		case k < 3 || len(h.Objs) == 0:
			f.Stack = append(f.Stack, vNum(numbers[r.Intn(len(numbers))]))
		default:
			f.Stack = append(f.Stack, vObj(h.Objs[r.Intn(len(h.Objs))].Id))
		}
	}
	for range []int{0, 1, 5, 19, 20, 20}[r.Intn(6)] {
		f.Out = append(f.Out, numbers[r.Intn(len(numbers))])
	}
	return f
}

func TestStepsOfAnyFrames(t *testing.T) {
	r := rand.New(rand.NewSource(131))
	heaps := []impl.Heap{smallHeap(), fullHeap(), storyHeap(t), impl.HeapNew()}
	wandered(132, 4, 60, func(h impl.Heap) { heaps = append(heaps, h) })
	codes := map[[2]int64]int{}
	for at := range 60000 {
		h, p := heaps[r.Intn(len(heaps))], anyProg(r)
		if at%2 == 0 {
			h = heaps[r.Intn(4)]
		}
		f := anyFrame(r, h, p)
		_, _, code := asksStep(t, h, p, f)
		codes[[2]int64{p[f.Pc].Kind, code}]++
	}
	for kind := int64(1); kind <= 15; kind++ {
		want := []int64{impl.VmGo}
		switch kind {
		case impl.InHalt:
			want = []int64{impl.VmDone}
		case impl.InStore, impl.InSet, impl.InTell:
			want = append(want, impl.VmKind, impl.VmFull)
		case impl.InGet, impl.InLess:
			want = append(want, impl.VmKind)
		case impl.InNew:
			want = append(want, impl.VmFull)
		case impl.InAdd:
			want = append(want, impl.VmKind, impl.VmRange)
		}
		for code := range int64(8) {
			if n := codes[[2]int64{kind, code}]; (n > 0) != slices.Contains(want, code) {
				t.Error("kind", kind, "code", code, "times", n)
			}
		}
	}
}

// Promise 13: a run is its steps, whatever fuel it has.
func TestRunsAreTheirSteps(t *testing.T) {
	r := rand.New(rand.NewSource(133))
	codes, told, loops := map[int64]int{}, map[int]int{}, 0
	var heaps []impl.Heap
	wandered(134, 3, 60, func(h impl.Heap) { heaps = append(heaps, h) })
	for range 3000 {
		h, p := heaps[r.Intn(len(heaps))], anyProg(r)
		fuel := []int64{0, 1, 2, 7, 20, 50, 199, 200}[r.Intn(8)]
		_, f, code := asksRun(t, h, p, fuel)
		codes[code]++
		told[len(f.Out)]++
		if code == impl.VmFuel && fuel > 20 {
			loops++
		}
	}
	if codes[impl.VmDone] < 500 || codes[impl.VmKind] < 300 || codes[impl.VmFuel] < 300 || codes[impl.VmFull] < 20 || codes[impl.VmRange] < 5 || loops < 30 || len(told) < 5 {
		t.Error("too much alike", codes, told, loops)
	}
}

// A run that is broken off goes on from its frame as if it had not been.
func TestRunsBrokenOff(t *testing.T) {
	p := program(t, "num 3; nil; store l; new; dup; load l; set n; store l; num -1; add; dup; unless 13; jump 3; pop; halt")
	whole, end, code := impl.VmRun(impl.HeapNew(), p, 200)
	if code != impl.VmDone {
		t.Fatal(code)
	}
	for fuel := range int64(40) {
		h, f, code := impl.VmRun(impl.HeapNew(), p, fuel)
		for range 100 {
			if code == impl.VmDone {
				break
			}
			h, f, code = asksStep(t, h, p, f)
		}
		if code != impl.VmDone || !sameHeap(h, whole) || !sameFrame(f, end) {
			t.Error(fuel, code, h, f)
		}
	}
}

// asksCollected holds a run against one ahead of which something was collected.
// It answers false where the first had no room in its heap; up to there both are
// the same.
func asksCollected(t *testing.T, h impl.Heap, p []impl.Instr, fuel int64) bool {
	t.Helper()
	left, _, _ := impl.Collected(h)
	after, f, code := impl.VmRun(h, p, fuel)
	room := code != impl.VmFull || p[f.Pc].Kind == impl.InTell
	for !room && code == impl.VmFull {
		fuel--
		after, f, code = impl.VmRun(h, p, fuel)
	}
	other, g, is := impl.VmRun(left, p, fuel)
	if is != code || !sameFrame(f, g) {
		t.Fatalf("%+v\n%s: %d %+v, collected %d %+v", h, progShown(p), code, f, is, g)
	}
	seesTheSame(t, after, other)
	return room
}

// Promise 13: nobody sees that something was collected ahead of a run, not by
// what is told, nor by what lies on the stack, nor in the heap that is left.
func TestRunsDoNotSeeCollection(t *testing.T) {
	r := rand.New(rand.NewSource(135))
	var heaps []impl.Heap
	wandered(136, 40, 60, func(h impl.Heap) {
		if len(unreachedIn(h)) > 0 {
			heaps = append(heaps, h)
		}
	})
	same, full := 0, 0
	for range 5000 {
		h, p := heaps[r.Intn(len(heaps))], anyProg(r)
		if asksCollected(t, h, p, int64(r.Intn(201))) {
			same++
		} else {
			full++
		}
	}
	if same < 3000 || full < 100 {
		t.Error("too much alike", same, full)
	}
}

// Where a run had no room it has some, when what nobody holds is collected ahead
// of it.
func TestCollectionMakesRoomForRuns(t *testing.T) {
	p := program(t, "new; store a; jump 0")
	h, f, code := asksRun(t, impl.HeapNew(), p, 200)
	if code != impl.VmFull || len(h.Objs) != 16 || !sameFrame(f, frame(0, nil)) {
		t.Fatal(code, f, h)
	}
	left, gone, _ := impl.Collected(h)
	if len(gone) != 15 || asksCollected(t, h, p, 200) {
		t.Fatal(gone)
	}
	after, f, code := asksRun(t, left, p, 3)
	if code != impl.VmFuel || !sameFrame(f, frame(0, nil)) || global(after, "a") != h.Next {
		t.Error(code, f, after)
	}
}

func sparedFrame(f impl.Frame) impl.Frame {
	return frame(f.Pc, withRoom(f.Out, 77), withRoom(f.Stack, impl.Val{Kind: 7, N: 77})...)
}

func shownFrame(f impl.Frame) string {
	return fmt.Sprint(f.Pc, len(f.Stack), len(f.Out), f.Stack[:cap(f.Stack)], f.Out[:cap(f.Out)])
}

// machineAnswers are those of all functions of the machine.
func machineAnswers(h impl.Heap, p []impl.Instr, f impl.Frame, fuel int64) []any {
	depths, ok := impl.DepthsOf(p)
	text := impl.ProgText(p)
	back, is := impl.ReadProg(text)
	after, next, code := impl.VmStep(h, p, f)
	end, last, told := impl.VmRun(h, p, fuel)
	answers := []any{depths, ok, impl.ProgOk(p), text, back, is, after, next, code, end, last, told}
	for _, i := range p {
		answers = append(answers, impl.InstrOk(i))
	}
	return answers
}

func TestMachineIsNewMemory(t *testing.T) {
	r := rand.New(rand.NewSource(137))
	wrong := smallHeap()
	wrong.Doc = 9
	wrong.Nodes[4].Parent = 1
	given := []impl.Heap{impl.HeapNew(), smallHeap(), fullHeap(), storyHeap(t), wrong}
	codes := map[int64]int{}
	for range 3000 {
		at := given[r.Intn(len(given))]
		h, p := sparedHeap(at), withRoom(anyProg(r), impl.Instr{Kind: 77, N: 77, Name: "spare"})
		if r.Intn(20) == 0 {
			p[r.Intn(len(p))].Kind = 16
		}
		f := impl.Frame{Pc: 3}
		if impl.ProgOk(p) {
			f = anyFrame(r, at, p)
		}
		f = sparedFrame(f)
		was, had, text := shown(h), shownFrame(f), fmt.Sprint(len(p), p[:cap(p)])
		fuel := int64(r.Intn(203) - 1)
		answers, again := machineAnswers(h, p, f, fuel), machineAnswers(h, p, f, fuel)
		if !reflect.DeepEqual(answers, again) {
			t.Fatal("not the same answers", answers, again)
		}
		sharesNothing(t, append(answers, again...), []any{h, p, f})
		if shown(h) != was || shownFrame(f) != had || fmt.Sprint(len(p), p[:cap(p)]) != text {
			t.Fatal("written into", h, p, f)
		}
		codes[answers[8].(int64)]++
	}
	for _, code := range []int64{impl.VmDone, impl.VmForm, impl.VmKind, impl.VmFull, impl.VmGo} {
		if codes[code] < 20 {
			t.Error("too much alike", codes)
		}
	}
}
