package tests

import (
	"cmp"
	"fmt"
	"math"
	"math/rand"
	"reflect"
	"slices"
	"testing"

	"loop.example/g00376/impl"
)

func task(id int64, ops ...impl.Op) impl.Task { return impl.Task{Id: id, Ops: ops} }

func timer(at, id int64, ops ...impl.Op) impl.Timer {
	return impl.Timer{At: at, Task: task(id, ops...)}
}

// tasksFrom are so many with rising Ids.
func tasksFrom(id int64, n int) []impl.Task {
	var l []impl.Task
	for i := range n {
		l = append(l, task(id+int64(i)))
	}
	return l
}

func timersFrom(at, id int64, n int) []impl.Timer {
	var l []impl.Timer
	for i := range n {
		l = append(l, timer(at, id+int64(i)))
	}
	return l
}

func idsIn(tasks []impl.Task) []int64 {
	var ids []int64
	for _, x := range tasks {
		ids = append(ids, x.Id)
	}
	return ids
}

// dueIn has At and Id of each timer.
func dueIn(timers []impl.Timer) [][2]int64 {
	var l [][2]int64
	for _, x := range timers {
		l = append(l, [2]int64{x.At, x.Task.Id})
	}
	return l
}

func sameTask(a, b impl.Task) bool { return a.Id == b.Id && slices.Equal(a.Ops, b.Ops) }

func sameLoop(a, b impl.Loop) bool {
	timers := func(a, b impl.Timer) bool { return a.At == b.At && sameTask(a.Task, b.Task) }
	return a.Now == b.Now && a.Next == b.Next && sameHeap(a.Heap, b.Heap) && slices.EqualFunc(a.Micro, b.Micro, sameTask) &&
		slices.EqualFunc(a.Macro, b.Macro, sameTask) && slices.EqualFunc(a.Timers, b.Timers, timers)
}

// isLoop is the document's rule, clause by clause.
func isLoop(l impl.Loop) bool {
	if l.Now < 0 || l.Now > 1000000 || l.Next < 1 || l.Next > 1000000000 || !isRight(l.Heap) {
		return false
	}
	if len(l.Micro) > 10 || len(l.Macro) > 20 || len(l.Timers) > 10 {
		return false
	}
	seen := map[int64]bool{}
	right := func(x impl.Task) bool {
		first := !seen[x.Id]
		seen[x.Id] = true
		return first && x.Id > 0 && x.Id < l.Next && len(x.Ops) <= 6 && !slices.ContainsFunc(x.Ops, func(o impl.Op) bool { return !isOp(o) })
	}
	for _, x := range append(slices.Clone(l.Micro), l.Macro...) {
		if !right(x) {
			return false
		}
	}
	for i, x := range l.Timers {
		if !right(x.Task) || x.At < l.Now || x.At > 1000000 {
			return false
		}
		for _, y := range l.Timers[:i] {
			if y.At > x.At || y.At == x.At && y.Task.Id > x.Task.Id {
				return false
			}
		}
	}
	return true
}

// The model of a loop has all tasks in one list, each with the queue in which
// it waits: m for Micro, q for Macro, t for Timers.
type waiting struct {
	queue byte
	at    int64
	task  impl.Task
}

type modelLoop struct {
	now, next int64
	heap      impl.Heap
	all       []waiting
}

func modelLoopOf(l impl.Loop) *modelLoop {
	m := &modelLoop{now: l.Now, next: l.Next, heap: l.Heap}
	for _, x := range l.Micro {
		m.all = append(m.all, waiting{'m', 0, x})
	}
	for _, x := range l.Macro {
		m.all = append(m.all, waiting{'q', 0, x})
	}
	for _, x := range l.Timers {
		m.all = append(m.all, waiting{'t', x.At, x.Task})
	}
	return m
}

// in are the places of those in that queue, in their order.
func (m *modelLoop) in(queue byte) []int {
	var l []int
	for i, w := range m.all {
		if w.queue == queue {
			l = append(l, i)
		}
	}
	slices.SortStableFunc(l, func(i, j int) int {
		a, b := m.all[i], m.all[j]
		if queue != 't' {
			return 0
		}
		return cmp.Or(cmp.Compare(a.at, b.at), cmp.Compare(a.task.Id, b.task.Id))
	})
	return l
}

func (m *modelLoop) loop() impl.Loop {
	l := impl.Loop{Now: m.now, Next: m.next, Heap: m.heap}
	for _, i := range m.in('m') {
		l.Micro = append(l.Micro, m.all[i].task)
	}
	for _, i := range m.in('q') {
		l.Macro = append(l.Macro, m.all[i].task)
	}
	for _, i := range m.in('t') {
		l.Timers = append(l.Timers, impl.Timer{At: m.all[i].at, Task: m.all[i].task})
	}
	return l
}

func (m *modelLoop) leaves(i int) waiting {
	w := m.all[i]
	m.all = slices.Delete(m.all, i, i+1)
	return w
}

func (m *modelLoop) done(i int) int64 {
	w := m.leaves(i)
	for _, o := range w.task.Ops {
		m.heap, _ = modelRan(m.heap, o)
	}
	return w.task.Id
}

func (m *modelLoop) turn() (int64, bool) {
	if l := m.in('m'); len(l) > 0 {
		return m.done(l[0]), true
	}
	for {
		l := m.in('t')
		if len(l) == 0 || m.all[l[0]].at > m.now || len(m.in('q')) == 20 {
			break
		}
		w := m.leaves(l[0])
		m.all = append(m.all, waiting{'q', 0, w.task})
	}
	if l := m.in('q'); len(l) > 0 {
		return m.done(l[0]), true
	}
	if l := m.in('t'); len(l) > 0 {
		m.now = m.all[l[0]].at
		return 0, true
	}
	return 0, false
}

// put tells what After tells with the queue t, Posted with the others.
func (m *modelLoop) put(queue byte, delay int64, ops []impl.Op) int64 {
	if len(ops) > 6 || slices.ContainsFunc(ops, func(o impl.Op) bool { return !isOp(o) }) || delay < 0 || delay > 1000 {
		return impl.HpForm
	}
	if len(m.in(queue)) >= 10 || m.next == 1000000000 || m.now+delay > 1000000 && queue == 't' {
		return impl.HpFull
	}
	m.all = append(m.all, waiting{queue, m.now + delay, task(m.next, ops...)})
	m.next++
	return impl.HpDone
}

// asksPut holds Posted or After against the model.
func asksPut(t *testing.T, l impl.Loop, queue byte, delay int64, ops []impl.Op) (impl.Loop, int64) {
	t.Helper()
	m := modelLoopOf(l)
	wants := m.put(queue, delay, ops)
	after, code := impl.After(l, delay, ops)
	if queue != 't' {
		after, code = impl.Posted(l, queue == 'm', ops)
	}
	if want := m.loop(); code != wants || !sameLoop(after, want) || !isLoop(after) {
		t.Fatalf("%+v: %c %d %v: %d %+v, want %d %+v", l, queue, delay, ops, code, after, wants, want)
	}
	if code != impl.HpDone && !sameLoop(after, l) {
		t.Fatalf("%+v: %c %d %v is refused, and leaves %+v", l, queue, delay, ops, after)
	}
	return after, code
}

// asksTurn holds Turned against the model.
func asksTurn(t *testing.T, l impl.Loop) (impl.Loop, int64, bool) {
	t.Helper()
	m := modelLoopOf(l)
	id, ok := m.turn()
	after, got, is := impl.Turned(l)
	if want := m.loop(); got != id || is != ok || !sameLoop(after, want) || !isLoop(after) {
		t.Fatalf("%+v: %d %v %+v, want %d %v %+v", l, got, is, after, id, ok, want)
	}
	if !is && !sameLoop(after, l) {
		t.Fatalf("%+v: nothing is done, and leaves %+v", l, after)
	}
	return after, got, is
}

// asksLoopRun holds a run against its turns, one by one.
func asksLoopRun(t *testing.T, l impl.Loop, n int64) (impl.Loop, []int64) {
	t.Helper()
	want := l
	var wants []int64
	for range n {
		after, id, ok := asksTurn(t, want)
		if !ok {
			break
		}
		want = after
		if id != 0 {
			wants = append(wants, id)
		}
	}
	after, ids := impl.LoopRun(l, n)
	if !sameLoop(after, want) || !slices.Equal(ids, wants) {
		t.Fatalf("%+v: %d turns: %v %+v, want %v %+v", l, n, ids, after, wants, want)
	}
	return after, ids
}

// noLoop asks that nothing is told of a loop that is not right, whatever else
// is asked for.
func noLoop(t *testing.T, what string, l impl.Loop) {
	t.Helper()
	if impl.LoopOk(l) {
		t.Error(what, "is accepted")
	}
	if isLoop(l) {
		t.Error(what, "breaks nothing")
	}
	for _, ops := range [][]impl.Op{nil, {opObject("a")}, {{}}, make([]impl.Op, 7)} {
		for _, micro := range []bool{true, false} {
			if after, code := impl.Posted(l, micro, ops); code != impl.HpWrong || !sameLoop(after, impl.Loop{}) {
				t.Error(what, micro, ops, code, after)
			}
		}
		for _, delay := range []int64{0, 1, 1000, 1001, -1, math.MaxInt64, math.MinInt64} {
			if after, code := impl.After(l, delay, ops); code != impl.HpWrong || !sameLoop(after, impl.Loop{}) {
				t.Error(what, delay, ops, code, after)
			}
		}
	}
	if after, id, ok := impl.Turned(l); ok || id != 0 || !sameLoop(after, impl.Loop{}) {
		t.Error(what, id, ok, after)
	}
	for _, n := range []int64{0, 1, 100, 101, -1} {
		if after, ids := impl.LoopRun(l, n); len(ids) != 0 || !sameLoop(after, impl.Loop{}) {
			t.Error(what, n, ids, after)
		}
	}
}

func loopNew(t *testing.T, h impl.Heap) impl.Loop {
	t.Helper()
	l, ok := impl.LoopNew(h)
	if !ok {
		t.Fatal("no loop of", h)
	}
	return l
}

func posted(t *testing.T, l impl.Loop, micro bool, ops ...impl.Op) impl.Loop {
	t.Helper()
	queue := byte('q')
	if micro {
		queue = 'm'
	}
	after, code := asksPut(t, l, queue, 0, ops)
	if code != impl.HpDone {
		t.Fatal(micro, ops, "is refused:", code)
	}
	return after
}

func timed(t *testing.T, l impl.Loop, delay int64, ops ...impl.Op) impl.Loop {
	t.Helper()
	after, code := asksPut(t, l, 't', delay, ops)
	if code != impl.HpDone {
		t.Fatal(delay, ops, "is refused:", code)
	}
	return after
}

// turns asks for what so many turns do, one by one: an Id, or 0 of one that only
// waits.
func turns(t *testing.T, l impl.Loop, want ...int64) impl.Loop {
	t.Helper()
	for i, id := range want {
		after, got, ok := asksTurn(t, l)
		if !ok || got != id {
			t.Fatalf("turn %d does %d %v, want %d: %+v", i, got, ok, id, l)
		}
		l = after
	}
	return l
}

// ends asks that there is nothing at all to do.
func ends(t *testing.T, l impl.Loop) {
	t.Helper()
	if after, id, ok := asksTurn(t, l); ok || id != 0 || !sameLoop(after, l) {
		t.Fatal("there is more:", id, ok, after)
	}
}

// busyLoop has tasks in each list, and meets no limit.
func busyLoop() impl.Loop {
	return impl.Loop{
		Now: 7, Next: 40, Heap: smallHeap(),
		Micro:  []impl.Task{task(12, opObject("a"), opDrop("nn"), opSet("a", "x", "e")), task(3)},
		Macro:  []impl.Task{task(30, opElement("b", "p")), task(2, opDoc("doc"), opAppend("doc", "b")), task(31)},
		Timers: []impl.Timer{timer(7, 20, opDrop("b")), timer(7, 21), timer(9, 1, opGet("a", "x", "c")), timer(9, 33), timer(500, 4, opObject("o"))},
	}
}

// fullLoop meets every limit exactly.
func fullLoop() impl.Loop {
	l := impl.Loop{Now: 1000000, Next: 1000000000, Heap: fullHeap(), Micro: tasksFrom(1, 10), Macro: tasksFrom(999999980, 20), Timers: timersFrom(1000000, 100, 10)}
	six := []impl.Op{opObject("abcdef"), opDrop("a"), opElement("a", "p"), opDoc("a"), opSet("a", "a", "a"), opListen("a", listeners(1)[0])}
	l.Micro[9].Ops, l.Macro[19].Ops, l.Timers[9].Task.Ops = slices.Clone(six), slices.Clone(six), slices.Clone(six)
	return l
}

func TestConstantsOfLoops(t *testing.T) {
	if impl.MaxTasks != 10 || impl.MaxOps != 6 || impl.MaxTime != 1000000 {
		t.Error(impl.MaxTasks, impl.MaxOps, impl.MaxTime)
	}
}

func TestLoopNew(t *testing.T) {
	for _, h := range []impl.Heap{impl.HeapNew(), smallHeap(), fullHeap(), storyHeap(t)} {
		l, ok := impl.LoopNew(h)
		if !ok || !sameLoop(l, impl.Loop{Next: 1, Heap: h}) || !impl.LoopOk(l) {
			t.Error(l, ok)
		}
		ends(t, l)
	}
	heapsNotRight(func(what string, h impl.Heap) {
		if l, ok := impl.LoopNew(h); ok || !sameLoop(l, impl.Loop{}) {
			t.Error(what, l, ok)
		}
	})
}

func TestLoopsThatAreRight(t *testing.T) {
	for _, l := range []impl.Loop{
		{Next: 1, Heap: impl.HeapNew()},
		{Now: 5, Next: 2, Heap: smallHeap(), Timers: timersFrom(5, 1, 1)},
		busyLoop(), fullLoop(),
	} {
		if !impl.LoopOk(l) || !isLoop(l) {
			t.Errorf("%+v is refused", l)
		}
	}
}

// Micro tasks go ahead of all, also of those that were posted before them; what
// stands in one list keeps its order.
func TestMicroFirst(t *testing.T) {
	l := loopNew(t, impl.HeapNew())
	for i := range 6 {
		l = posted(t, l, i%2 == 1)
	}
	if !slices.Equal(idsIn(l.Micro), []int64{2, 4, 6}) || !slices.Equal(idsIn(l.Macro), []int64{1, 3, 5}) || l.Next != 7 || l.Now != 0 {
		t.Fatal(l)
	}
	l = turns(t, l, 2)
	l = posted(t, l, false) // 7
	l = posted(t, l, true)  // 8
	l = turns(t, l, 4, 6, 8, 1)
	l = posted(t, l, true) // 9
	l = turns(t, l, 9, 3, 5, 7)
	ends(t, l)
	if l.Next != 10 || l.Now != 0 {
		t.Error(l)
	}
}

func TestTimersByTheirDelays(t *testing.T) {
	l := loopNew(t, impl.HeapNew())
	for _, delay := range []int64{5, 2, 9, 2, 0, 5, 2} {
		l = timed(t, l, delay)
	}
	if want := [][2]int64{{0, 5}, {2, 2}, {2, 4}, {2, 7}, {5, 1}, {5, 6}, {9, 3}}; !slices.Equal(dueIn(l.Timers), want) {
		t.Fatal(l.Timers)
	}
	l = turns(t, l, 5)
	if l.Now != 0 {
		t.Error(l.Now)
	}
	l = turns(t, l, 0)
	if l.Now != 2 || len(l.Timers) != 6 || len(l.Macro) != 0 {
		t.Error(l)
	}
	l = turns(t, l, 2)
	if !slices.Equal(idsIn(l.Macro), []int64{4, 7}) || len(l.Timers) != 3 {
		t.Error(l)
	}
	// counted from 2 on, and so due with those of 5
	l = timed(t, l, 3)
	l = turns(t, l, 4, 7, 0, 1, 6, 8)
	if l.Now != 5 {
		t.Error(l.Now)
	}
	l = turns(t, l, 0, 3)
	if l.Now != 9 || l.Next != 9 {
		t.Error(l)
	}
	ends(t, l)
}

// Ops of one task after another one, on one heap.
func TestTasksChangeTheHeap(t *testing.T) {
	l := loopNew(t, impl.HeapNew())
	l = posted(t, l, false, opAppend("d", "a"))                                       // 1
	l = posted(t, l, true, opDoc("d"), opElement("a", "div"))                         // 2
	l = timed(t, l, 3, opElement("c", "li"), opBefore("b", "c"))                      // 3
	l = timed(t, l, 1, opElement("b", "p"), opAppend("a", "b"), opSet("b", "x", "a")) // 4
	l = turns(t, l, 2)
	if docText(l.Heap) != "<doc></doc>" || global(l.Heap, "a") == 0 {
		t.Error(l.Heap)
	}
	for _, c := range []struct {
		id   int64
		text string
	}{
		{1, "<doc><div></div></doc>"},
		{0, "<doc><div></div></doc>"},
		{4, "<doc><div><p></p></div></doc>"},
		{0, "<doc><div><p></p></div></doc>"},
		{3, "<doc><div><li></li><p></p></div></doc>"},
	} {
		was := l.Heap
		l = turns(t, l, c.id)
		if docText(l.Heap) != c.text || c.id == 0 && !sameHeap(l.Heap, was) {
			t.Fatal(c, docText(l.Heap))
		}
	}
	ends(t, l)
}

// What is refused does nothing, and those behind it are done as if it was not
// there.
func TestRefusedOpsDoNothing(t *testing.T) {
	full := fullHeap()
	for _, c := range []struct {
		h   impl.Heap
		ops []impl.Op
	}{
		{impl.HeapNew(), []impl.Op{opElement("a", "p"), opDrop("z"), opDoc("d"), opAppend("a", "d"), opAppend("d", "a"), opDetach("o")}},
		{smallHeap(), []impl.Op{opObject("a"), opGet("a", "x", "b"), opSet("a", "x", "e"), opGet("a", "x", "b"), opFirst("e", "c"), opFirst("d", "c")}},
		{full, []impl.Op{opDrop("globaa"), opElement("globaa", "p"), opDrop("globab"), opObject("globac"), opUnset("globac", "fielda"), opListen("globad", listeners(1)[0])}},
	} {
		kept := c.h
		var rest []impl.Op
		for _, o := range c.ops {
			after, code := modelRan(kept, o)
			if code == impl.HpDone {
				kept, rest = after, append(rest, o)
			}
		}
		if len(rest) == 0 || len(rest) == len(c.ops) {
			t.Fatal("nothing is refused, or all", rest)
		}
		for _, micro := range []bool{true, false} {
			all := turns(t, posted(t, loopNew(t, c.h), micro, c.ops...), 1)
			some := turns(t, posted(t, loopNew(t, c.h), micro, rest...), 1)
			if !sameHeap(all.Heap, kept) || !sameLoop(all, some) {
				t.Errorf("%v: %+v, want %+v", c.ops, all.Heap, kept)
			}
		}
		late := turns(t, timed(t, loopNew(t, c.h), 4, c.ops...), 0, 1)
		if !sameHeap(late.Heap, kept) || late.Now != 4 {
			t.Errorf("%v: %+v, want %+v", c.ops, late, kept)
		}
	}
}

func TestNothingAtAll(t *testing.T) {
	for _, l := range []impl.Loop{
		{Next: 1, Heap: impl.HeapNew()},
		{Now: 1000000, Next: 1000000000, Heap: fullHeap()},
		{Now: 3, Next: 9, Heap: smallHeap(), Micro: []impl.Task{}, Macro: []impl.Task{}, Timers: []impl.Timer{}},
	} {
		ends(t, l)
		for _, n := range []int64{0, 1, 100} {
			if after, ids := asksLoopRun(t, l, n); len(ids) != 0 || !sameLoop(after, l) {
				t.Error(after, ids)
			}
		}
	}
}

// A loop with timers alone, none of them due, waits for the first one.
func TestTimersAlone(t *testing.T) {
	l := impl.Loop{Now: 10, Next: 9, Heap: impl.HeapNew(), Timers: []impl.Timer{timer(11, 5, opObject("a")), timer(11, 8), timer(1000000, 1, opDrop("a"))}}
	one := turns(t, l, 0)
	if one.Now != 11 || !sameHeap(one.Heap, l.Heap) || len(one.Timers) != 3 || len(one.Macro) != 0 {
		t.Error(one)
	}
	two := turns(t, one, 5)
	if two.Now != 11 || !slices.Equal(idsIn(two.Macro), []int64{8}) || len(two.Timers) != 1 || global(two.Heap, "a") == 0 {
		t.Error(two)
	}
	all := turns(t, two, 8, 0, 1)
	if all.Now != 1000000 || len(all.Heap.Globals) != 0 {
		t.Error(all)
	}
	ends(t, all)
}

// A timer that is due at once waits for what stands in Macro, and for timers of
// the same At that were there ahead of it; a later one does not go with it.
func TestDueAtOnce(t *testing.T) {
	l := impl.Loop{Now: 50, Next: 10, Heap: impl.HeapNew(), Macro: tasksFrom(6, 2), Timers: []impl.Timer{timer(50, 9), timer(51, 1)}}
	l = timed(t, l, 0) // 10
	if want := [][2]int64{{50, 9}, {50, 10}, {51, 1}}; !slices.Equal(dueIn(l.Timers), want) {
		t.Fatal(l.Timers)
	}
	l = posted(t, l, false) // 11
	l = posted(t, l, true)  // 12
	micro := turns(t, l, 12)
	if len(micro.Timers) != 3 || !slices.Equal(idsIn(micro.Macro), []int64{6, 7, 11}) {
		t.Error("timers went beside a micro task:", micro)
	}
	one := turns(t, micro, 6)
	if !slices.Equal(idsIn(one.Macro), []int64{7, 11, 9, 10}) || !slices.Equal(dueIn(one.Timers), [][2]int64{{51, 1}}) || one.Now != 50 {
		t.Error(one)
	}
	end := turns(t, one, 7, 11, 9, 10, 0, 1)
	if end.Now != 51 {
		t.Error(end.Now)
	}
	ends(t, end)

	// an Id that is less stands ahead, though it came later to that At
	l = impl.Loop{Now: 3, Next: 10, Heap: impl.HeapNew(), Timers: []impl.Timer{timer(3, 2), timer(3, 9), timer(4, 1)}}
	end = turns(t, l, 2, 9, 0, 1)
	ends(t, end)

	// due at once, again and again: each is done ahead of the next
	l = loopNew(t, impl.HeapNew())
	for id := int64(1); id <= 30; id++ {
		l = turns(t, timed(t, l, 0), id)
	}
	if l.Now != 0 || l.Next != 31 {
		t.Error(l)
	}
}

// Timers that come due while Macro has so many: those for which there is no
// room wait, in order, and those behind them, too.
func TestDueWhileMacroIsFull(t *testing.T) {
	for _, c := range []struct {
		macro, due int
		goes       int
	}{
		{20, 1, 0}, {20, 10, 0}, {19, 1, 1}, {19, 2, 1}, {19, 10, 1}, {18, 2, 2}, {18, 3, 2}, {11, 10, 9}, {10, 10, 10}, {9, 10, 10}, {0, 10, 10}, {0, 1, 1}, {20, 0, 0}, {19, 0, 0},
	} {
		l := impl.Loop{Now: 5, Next: 100, Heap: impl.HeapNew(), Macro: tasksFrom(1, c.macro), Timers: timersFrom(5, 50, c.due)}
		if c.due < 10 {
			l.Timers = append(l.Timers, timer(6, 40))
		}
		first := int64(1)
		if c.macro == 0 {
			first = 50
		}
		one := turns(t, l, first)
		if len(one.Macro) != c.macro+c.goes-1 || len(one.Timers) != len(l.Timers)-c.goes || one.Now != 5 {
			t.Errorf("%+v: %+v", c, one)
		}
		want := append(idsIn(l.Macro), idsIn(tasksFrom(50, c.due))...)
		if c.due < 10 {
			want = append(want, 40)
		}
		if _, ids := asksLoopRun(t, l, 100); !slices.Equal(ids, want) {
			t.Errorf("%+v: %v, want %v", c, ids, want)
		}
	}
	// a micro task does not make room
	l := impl.Loop{Now: 5, Next: 100, Heap: impl.HeapNew(), Micro: tasksFrom(30, 1), Macro: tasksFrom(1, 19), Timers: timersFrom(5, 50, 2)}
	if one := turns(t, l, 30); len(one.Macro) != 19 || len(one.Timers) != 2 {
		t.Error(one)
	}
}

func TestLimitsOfLoops(t *testing.T) {
	for _, c := range []struct {
		name      string
		met, past func(l *impl.Loop)
	}{
		{"Now", func(l *impl.Loop) { l.Now = 1000000 }, func(l *impl.Loop) { l.Now, l.Timers = 1000001, nil }},
		{"Now alone", func(l *impl.Loop) { l.Now, l.Timers = 1000000, nil }, func(l *impl.Loop) { l.Now = 1000001 }},
		{"Now 0", func(l *impl.Loop) { l.Now = 0 }, func(l *impl.Loop) { l.Now = -1 }},
		{"Next", func(l *impl.Loop) { l.Next = 1000000000 }, func(l *impl.Loop) { l.Next = 1000000001 }},
		{"Next 1", func(l *impl.Loop) { l.Next, l.Micro, l.Macro, l.Timers = 1, nil, nil, nil }, func(l *impl.Loop) { l.Next = 0 }},
		{"an Id below Next", func(l *impl.Loop) { l.Macro[19].Id = 999999999 }, func(l *impl.Loop) { l.Macro[19].Id = 1000000000 }},
		{"Micro", func(l *impl.Loop) { l.Micro = tasksFrom(1, 10) }, func(l *impl.Loop) { l.Micro = tasksFrom(1, 11) }},
		{"Macro", func(l *impl.Loop) { l.Macro = tasksFrom(1000, 20) }, func(l *impl.Loop) { l.Macro = tasksFrom(1000, 21) }},
		{"Timers", func(l *impl.Loop) { l.Timers = timersFrom(1000000, 100, 10) }, func(l *impl.Loop) { l.Timers = timersFrom(1000000, 100, 11) }},
		{"ops in Micro", func(l *impl.Loop) { l.Micro[0].Ops = slices.Clone(l.Micro[9].Ops) }, func(l *impl.Loop) { l.Micro[0].Ops = append(l.Micro[0].Ops, opObject("a")) }},
		{"ops in Macro", func(l *impl.Loop) { l.Macro[0].Ops = slices.Clone(l.Micro[9].Ops) }, func(l *impl.Loop) { l.Macro[0].Ops = append(l.Macro[0].Ops, opObject("a")) }},
		{"ops in Timers", func(l *impl.Loop) { l.Timers[0].Task.Ops = slices.Clone(l.Micro[9].Ops) }, func(l *impl.Loop) { l.Timers[0].Task.Ops = append(l.Timers[0].Task.Ops, opObject("a")) }},
		{"At", func(l *impl.Loop) { l.Timers[9].At = 1000000 }, func(l *impl.Loop) { l.Timers[9].At = 1000001 }},
		{"At Now", func(l *impl.Loop) { l.Now, l.Timers = 5, []impl.Timer{timer(5, 100)} }, func(l *impl.Loop) { l.Timers[0].At = 4 }},
		{"At 0", func(l *impl.Loop) { l.Now, l.Timers = 0, []impl.Timer{timer(0, 100)} }, func(l *impl.Loop) { l.Timers[0].At = -1 }},
	} {
		l := fullLoop()
		c.met(&l)
		if !impl.LoopOk(l) || !isLoop(l) {
			t.Error(c.name, "is met, and refused")
		}
		c.past(&l)
		noLoop(t, c.name+" is passed", l)
	}
}

// brokenLoops breaks one clause of busyLoop a row.
var brokenLoops = []struct {
	name  string
	wrong func(l *impl.Loop)
}{
	{"nothing at all", func(l *impl.Loop) { *l = impl.Loop{} }},
	{"a new heap alone", func(l *impl.Loop) { *l = impl.Loop{Heap: impl.HeapNew()} }},
	{"no heap", func(l *impl.Loop) { l.Heap = impl.Heap{} }},
	{"Now below 0", func(l *impl.Loop) { l.Now = math.MinInt64 }},
	{"Now far above", func(l *impl.Loop) { l.Now = math.MaxInt64 }},
	{"Now ahead of a timer", func(l *impl.Loop) { l.Now = 8 }},
	{"Next 0", func(l *impl.Loop) { l.Next = 0 }},
	{"Next below 0", func(l *impl.Loop) { l.Next = math.MinInt64 }},
	{"Next far above", func(l *impl.Loop) { l.Next = math.MaxInt64 }},
	{"Next is the greatest Id", func(l *impl.Loop) { l.Next = 33 }},
	{"Id 0 in Micro", func(l *impl.Loop) { l.Micro[0].Id = 0 }},
	{"Id 0 in Macro", func(l *impl.Loop) { l.Macro[2].Id = 0 }},
	{"Id 0 in Timers", func(l *impl.Loop) { l.Timers[0].Task.Id = 0 }},
	{"Id below 0 in Micro", func(l *impl.Loop) { l.Micro[1].Id = -1 }},
	{"Id below 0 in Macro", func(l *impl.Loop) { l.Macro[0].Id = math.MinInt64 }},
	{"Id below 0 in Timers", func(l *impl.Loop) { l.Timers[2].Task.Id = -1 }},
	{"Id Next in Micro", func(l *impl.Loop) { l.Micro[1].Id = 40 }},
	{"Id Next in Macro", func(l *impl.Loop) { l.Macro[1].Id = 40 }},
	{"Id Next in Timers", func(l *impl.Loop) { l.Timers[4].Task.Id = 40 }},
	{"Id far above in Macro", func(l *impl.Loop) { l.Macro[1].Id = math.MaxInt64 }},
	{"alike in Micro", func(l *impl.Loop) { l.Micro[1].Id = 12 }},
	{"alike in Macro", func(l *impl.Loop) { l.Macro[2].Id = 30 }},
	{"alike in Timers, of one At", func(l *impl.Loop) { l.Timers[1].Task.Id = 20 }},
	{"alike in Timers, of unlike At", func(l *impl.Loop) { l.Timers[4].Task.Id = 20 }},
	{"alike in Micro and Macro", func(l *impl.Loop) { l.Macro[1].Id = 3 }},
	{"alike in Micro and Timers", func(l *impl.Loop) { l.Timers[4].Task.Id = 12 }},
	{"alike in Macro and Timers", func(l *impl.Loop) { l.Timers[4].Task.Id = 31 }},
	{"timers fall by At", func(l *impl.Loop) { l.Timers[3], l.Timers[4] = l.Timers[4], l.Timers[3] }},
	{"the first timer is the last", func(l *impl.Loop) { l.Timers[0].At = 501 }},
	{"timers of one At fall by Id", func(l *impl.Loop) { l.Timers[0], l.Timers[1] = l.Timers[1], l.Timers[0] }},
	{"later timers of one At fall by Id", func(l *impl.Loop) { l.Timers[2], l.Timers[3] = l.Timers[3], l.Timers[2] }},
	{"a timer ahead of Now", func(l *impl.Loop) { l.Timers[0].At = 6 }},
	{"a timer below 0", func(l *impl.Loop) { l.Timers[0].At = math.MinInt64 }},
	{"a timer far above", func(l *impl.Loop) { l.Timers[4].At = math.MaxInt64 }},
	{"an op in Micro", func(l *impl.Loop) { l.Micro[0].Ops[1] = impl.Op{} }},
	{"an op in Macro", func(l *impl.Loop) { l.Macro[1].Ops[0].Word = "a" }},
	{"an op in Timers", func(l *impl.Loop) { l.Timers[2].Task.Ops[0].Name = "" }},
	{"the last op in Micro", func(l *impl.Loop) { l.Micro[1].Ops = []impl.Op{opObject("a"), opObject("A")} }},
	{"the last op in Macro", func(l *impl.Loop) { l.Macro[2].Ops = []impl.Op{opObject("a"), opObject("")} }},
	{"the last op in Timers", func(l *impl.Loop) { l.Timers[4].Task.Ops = []impl.Op{opObject("a"), {Kind: 13, Name: "a"}} }},
}

func TestClausesOfLoops(t *testing.T) {
	for _, c := range brokenLoops {
		l := busyLoop()
		c.wrong(&l)
		noLoop(t, c.name, l)
	}
	heapsNotRight(func(what string, h impl.Heap) {
		l := busyLoop()
		l.Heap = h
		noLoop(t, what, l)
		noLoop(t, what, impl.Loop{Next: 1, Heap: h})
	})
}

// Each number of a loop, put at all kinds of others, against the rule.
func TestNumbersOfLoops(t *testing.T) {
	right, wrong := 0, 0
	at := func(l *impl.Loop) []*int64 {
		all := []*int64{&l.Now, &l.Next}
		for i := range l.Micro {
			all = append(all, &l.Micro[i].Id)
		}
		for i := range l.Macro {
			all = append(all, &l.Macro[i].Id)
		}
		for i := range l.Timers {
			all = append(all, &l.Timers[i].At, &l.Timers[i].Task.Id)
		}
		return all
	}
	for _, make := range []func() impl.Loop{busyLoop, fullLoop} {
		first := make()
		for i := range at(&first) {
			for _, n := range []int64{-1, 0, 1, 2, 3, 4, 5, 7, 8, 9, 20, 22, 33, 34, 39, 40, 41, 100, 105, 500, 999999, 1000000, 1000001, 999999979, 999999999, 1000000000, 1000000001, 1<<32 + 7, math.MaxInt64, math.MinInt64} {
				l := make()
				*at(&l)[i] = n
				if impl.LoopOk(l) != isLoop(l) {
					t.Fatalf("%+v: %v", l, impl.LoopOk(l))
				}
				if isLoop(l) {
					right++
					asksTurn(t, l)
				} else {
					wrong++
				}
			}
		}
	}
	if right < 200 || wrong < 500 {
		t.Error("too much alike", right, wrong)
	}
}

// putIs asks for the code of Posted or After.
func putIs(t *testing.T, what string, l impl.Loop, queue byte, delay int64, ops []impl.Op, want int64) {
	t.Helper()
	if _, code := asksPut(t, l, queue, delay, ops); code != want {
		t.Errorf("%s: %c: code %d, want %d", what, queue, code, want)
	}
}

func TestHowManyTasks(t *testing.T) {
	for n := range 11 {
		want := int64(impl.HpDone)
		if n == 10 {
			want = impl.HpFull
		}
		l := impl.Loop{Next: 100, Heap: impl.HeapNew(), Micro: tasksFrom(1, n)}
		putIs(t, "micro", l, 'm', 0, nil, want)
		putIs(t, "beside micro", l, 'q', 0, nil, impl.HpDone)
		putIs(t, "beside micro", l, 't', 0, nil, impl.HpDone)
		l = impl.Loop{Next: 100, Heap: impl.HeapNew(), Timers: timersFrom(0, 1, n)}
		putIs(t, "timers", l, 't', 3, nil, want)
		putIs(t, "beside timers", l, 'm', 0, nil, impl.HpDone)
		putIs(t, "beside timers", l, 'q', 0, nil, impl.HpDone)
	}
	for n := range 21 {
		want := int64(impl.HpDone)
		if n >= 10 {
			want = impl.HpFull
		}
		l := impl.Loop{Next: 100, Heap: impl.HeapNew(), Macro: tasksFrom(1, n)}
		putIs(t, "macro", l, 'q', 0, nil, want)
		putIs(t, "beside macro", l, 'm', 0, nil, impl.HpDone)
		putIs(t, "beside macro", l, 't', 0, nil, impl.HpDone)
	}
	// what stands there by timers takes the room of what is posted
	l := turns(t, impl.Loop{Next: 100, Heap: impl.HeapNew(), Macro: tasksFrom(1, 5), Timers: timersFrom(0, 50, 7)}, 1)
	putIs(t, "eleven", l, 'q', 0, nil, impl.HpFull)
	l = turns(t, l, 2)
	putIs(t, "ten", l, 'q', 0, nil, impl.HpFull)
	putIs(t, "nine", turns(t, l, 3), 'q', 0, nil, impl.HpDone)
}

func TestDelays(t *testing.T) {
	for _, now := range []int64{0, 7, 999000, 999001, 999999, 1000000} {
		l := impl.Loop{Now: now, Next: 5, Heap: impl.HeapNew(), Timers: []impl.Timer{timer(now, 4)}}
		for _, delay := range []int64{math.MinInt64, -1000, -1, 0, 1, 2, 500, 999, 1000, 1001, 1000000, 1 << 32, math.MaxInt64} {
			want := int64(impl.HpDone)
			if delay < 0 || delay > 1000 {
				want = impl.HpForm
			} else if now+delay > 1000000 {
				want = impl.HpFull
			}
			putIs(t, fmt.Sprint("now ", now, " delay ", delay), l, 't', delay, nil, want)
		}
	}
}

func TestIdsOfTasks(t *testing.T) {
	for _, c := range []struct{ next, want int64 }{
		{1, impl.HpDone}, {2, impl.HpDone}, {999999999, impl.HpDone}, {1000000000, impl.HpFull},
	} {
		l := impl.Loop{Next: c.next, Heap: impl.HeapNew()}
		for _, queue := range []byte("mqt") {
			putIs(t, fmt.Sprint("Next ", c.next), l, queue, 0, []impl.Op{opObject("a")}, c.want)
		}
	}
	last, _ := impl.Posted(impl.Loop{Next: 999999999, Heap: impl.HeapNew()}, true, nil)
	if last.Next != 1000000000 || last.Micro[0].Id != 999999999 {
		t.Fatal(last)
	}
	// no Id comes back when its task is done
	last = turns(t, last, 999999999)
	putIs(t, "no more", last, 'm', 0, nil, impl.HpFull)
	l := turns(t, posted(t, loopNew(t, impl.HeapNew()), true), 1)
	if l = posted(t, l, true); l.Micro[0].Id != 2 {
		t.Error(l)
	}
}

func TestOpsOfTasks(t *testing.T) {
	l := loopNew(t, impl.HeapNew())
	for n := range 10 {
		want := int64(impl.HpDone)
		if n > 6 {
			want = impl.HpForm
		}
		ops := slices.Repeat([]impl.Op{opObject("a")}, n)
		for _, queue := range []byte("mqt") {
			putIs(t, fmt.Sprint(n, " ops"), l, queue, 1, ops, want)
		}
		for i := range ops {
			for _, wrong := range []impl.Op{{}, opObject("A"), {Kind: 2, Name: "a", Word: "b"}, {Kind: 13, Name: "a"}, opSet("a", "b", "")} {
				bad := slices.Clone(ops)
				bad[i] = wrong
				for _, queue := range []byte("mqt") {
					putIs(t, fmt.Sprint(n, " ops, ", i, " wrong"), l, queue, 1, bad, impl.HpForm)
				}
			}
		}
	}
	// right ops that will be refused are taken
	for _, queue := range []byte("mqt") {
		putIs(t, "refused later", l, queue, 1, []impl.Op{opDrop("z"), opDetach("z")}, impl.HpDone)
	}
}

// HpForm is told ahead of HpFull.
func TestWhichPutRefusalComesFirst(t *testing.T) {
	l := fullLoop()
	for _, queue := range []byte("mqt") {
		putIs(t, "full", l, queue, 0, nil, impl.HpFull)
		putIs(t, "full, too many ops", l, queue, 0, slices.Repeat([]impl.Op{opObject("a")}, 7), impl.HpForm)
		putIs(t, "full, a wrong op", l, queue, 0, []impl.Op{opObject("a"), {}}, impl.HpForm)
	}
	putIs(t, "full, a wrong delay", l, 't', 1001, nil, impl.HpForm)
	putIs(t, "full, a delay below 0", l, 't', -1, nil, impl.HpForm)
	putIs(t, "full, too late", l, 't', 1, nil, impl.HpFull)
}

func TestHowManyTurns(t *testing.T) {
	for _, l := range []impl.Loop{busyLoop(), fullLoop(), {Next: 1, Heap: impl.HeapNew()}} {
		for _, n := range []int64{0, 1, 2, 3, 5, 8, 20, 39, 40, 41, 99, 100} {
			asksLoopRun(t, l, n)
		}
		if after, ids := impl.LoopRun(l, 0); len(ids) != 0 || !sameLoop(after, l) {
			t.Error(after, ids)
		}
		for _, n := range []int64{-1, 101, 102, math.MinInt64, math.MaxInt64, 1 << 32, -1 << 32} {
			if after, ids := impl.LoopRun(l, n); len(ids) != 0 || !sameLoop(after, impl.Loop{}) {
				t.Error(n, after, ids)
			}
		}
	}
}

// All tasks that a loop can have are done in fewer turns than a run may have.
func TestAllTasksOfAFullLoop(t *testing.T) {
	l := fullLoop()
	want := append(append(idsIn(l.Micro), idsIn(l.Macro)...), idsIn(tasksFrom(100, 10))...)
	after, ids := asksLoopRun(t, l, 100)
	if !slices.Equal(ids, want) {
		t.Error(ids, want)
	}
	ends(t, after)
	// with timers each at a time of its own
	l.Now, l.Timers = 0, nil
	for i := range int64(10) {
		l.Timers = append(l.Timers, timer(1+100*i, 109-i))
	}
	after, ids = asksLoopRun(t, l, 50)
	if !slices.Equal(ids[:30], want[:30]) || !slices.Equal(ids[30:], []int64{109, 108, 107, 106, 105, 104, 103, 102, 101, 100}) || after.Now != 901 {
		t.Error(ids, after.Now)
	}
	ends(t, after)
	if _, less := asksLoopRun(t, l, 49); len(less) != 39 {
		t.Error(less)
	}
}

// Promise 14, of all that few calls can come to: micro tasks and others, timers,
// turns between them.
func TestFewCallsOnALoop(t *testing.T) {
	first := loopNew(t, impl.HeapNew())
	seen := map[string]int{}
	for n := 1; n <= 5; n++ {
		each([]byte("mq012T"), n, func(calls []byte) {
			l := first
			for i, c := range calls {
				op := opObject(string(rune('a' + i)))
				last := i == len(calls)-1
				switch {
				case c == 'T' && last:
					l, _, _ = asksTurn(t, l)
				case c == 'T':
					l, _, _ = impl.Turned(l)
				case c == 'm' || c == 'q':
					l, _ = impl.Posted(l, c == 'm', []impl.Op{op})
				case last:
					l, _ = asksPut(t, l, 't', int64(c-'0'), []impl.Op{op})
				default:
					l, _ = impl.After(l, int64(c-'0'), []impl.Op{op})
				}
			}
			seen[fmt.Sprint(idsIn(l.Micro), idsIn(l.Macro), dueIn(l.Timers), l.Now)]++
			if n == 5 {
				asksDone(t, l)
			}
		})
	}
	if len(seen) < 1000 {
		t.Error("too much alike", len(seen))
	}
}

// asksDone runs a loop to its end, and asks for promise 14 alone, without the
// model: what is micro first, each list in its order, timers as they are due,
// and each task once.
func asksDone(t *testing.T, l impl.Loop) {
	t.Helper()
	all := append(idsIn(l.Micro), idsIn(l.Macro)...)
	timers := dueIn(l.Timers)
	for _, d := range timers {
		all = append(all, d[1])
	}
	end, ids := impl.LoopRun(l, 100)
	if !slices.Equal(ids, all) {
		t.Fatalf("%+v: done are %v, want %v", l, ids, all)
	}
	now := l.Now
	if len(timers) > 0 {
		now = timers[len(timers)-1][0]
	}
	if len(end.Micro)+len(end.Macro)+len(end.Timers) != 0 || end.Now != now || end.Next != l.Next {
		t.Fatalf("%+v: ends with %+v", l, end)
	}
}

// anyLoop is right, with lists up to their limits.
func anyLoop(r *rand.Rand, heaps []impl.Heap, ops []impl.Op) impl.Loop {
	l := impl.Loop{Now: int64(r.Intn(4)), Next: 41 + int64(r.Intn(20)), Heap: heaps[r.Intn(len(heaps))]}
	if r.Intn(6) == 0 {
		l.Now += 999995
	}
	ids := r.Perm(int(l.Next) - 1)
	one := func() impl.Task {
		x := task(int64(ids[0]) + 1)
		ids = ids[1:]
		for range r.Intn(7) {
			x.Ops = append(x.Ops, ops[r.Intn(len(ops))])
		}
		return x
	}
	some := func(most int) int { return min(max(r.Intn(3*most)-most, 0), most) }
	for range some(10) {
		l.Micro = append(l.Micro, one())
	}
	for range some(20) {
		l.Macro = append(l.Macro, one())
	}
	for range some(10) {
		l.Timers = append(l.Timers, impl.Timer{At: l.Now + int64(r.Intn(3)), Task: one()})
	}
	slices.SortFunc(l.Timers, func(a, b impl.Timer) int {
		return cmp.Or(cmp.Compare(a.At, b.At), cmp.Compare(a.Task.Id, b.Task.Id))
	})
	return l
}

func TestAnyLoops(t *testing.T) {
	r := rand.New(rand.NewSource(140))
	ops := wanderOps()
	heaps := []impl.Heap{impl.HeapNew(), smallHeap(), fullHeap(), storyHeap(t)}
	wandered(141, 3, 60, func(h impl.Heap) { heaps = append(heaps, h) })
	codes, turned, still := map[string]int{}, map[string]int{}, 0
	for range 3000 {
		l := anyLoop(r, heaps, ops)
		if !impl.LoopOk(l) || !isLoop(l) {
			t.Fatalf("%+v", l)
		}
		after, id, ok := asksTurn(t, l)
		turned[fmt.Sprint(ok, id == 0, len(l.Micro) > 0, len(l.Macro) > 0, len(after.Timers) < len(l.Timers), len(l.Macro) == 20)]++
		if sameHeap(after.Heap, l.Heap) {
			still++
		}
		asksDone(t, l)
		queue := []byte("mqt")[r.Intn(3)]
		_, code := asksPut(t, l, queue, int64(r.Intn(9)), []impl.Op{ops[r.Intn(len(ops))]})
		codes[fmt.Sprint(string(queue), code)]++
	}
	if len(codes) != 6 || len(turned) < 9 || still < 300 || still > 2700 {
		t.Error("too much alike", codes, turned, still)
	}
}

// A run in two pieces is the same run in one.
func TestRunsInPieces(t *testing.T) {
	r := rand.New(rand.NewSource(142))
	ops := wanderOps()
	heaps := []impl.Heap{impl.HeapNew(), smallHeap(), storyHeap(t)}
	for at := range 400 {
		l := anyLoop(r, heaps, ops)
		n := int64(r.Intn(60))
		whole, ids := impl.LoopRun(l, n)
		if at%10 == 0 {
			asksLoopRun(t, l, n)
		}
		first := r.Int63n(n + 1)
		half, some := impl.LoopRun(l, first)
		rest, others := impl.LoopRun(half, n-first)
		if !sameLoop(rest, whole) || !slices.Equal(append(some, others...), ids) {
			t.Fatalf("%+v: %d and %d: %v %v, want %v", l, first, n-first, some, others, ids)
		}
	}
}

// Promise 14, with tasks that come while others are done.
func TestTurnsAndPostsInTurn(t *testing.T) {
	r := rand.New(rand.NewSource(143))
	ops := wanderOps()
	did, waits, full := 0, 0, 0
	for range 60 {
		l := loopNew(t, impl.HeapNew())
		due := map[int64][2]int64{}
		last := [2]int64{}
		done := map[int64]bool{}
		for range 120 {
			if r.Intn(2) == 0 {
				queue, delay := []byte("mqttt")[r.Intn(5)], int64(r.Intn(6))
				if r.Intn(3) == 0 {
					delay = 0
				}
				after, code := asksPut(t, l, queue, delay, []impl.Op{ops[r.Intn(len(ops))], ops[r.Intn(len(ops))]})
				if code == impl.HpFull {
					full++
				} else if queue == 't' {
					due[l.Next] = [2]int64{l.Now + delay, l.Next}
				}
				l = after
				continue
			}
			after, id, ok := asksTurn(t, l)
			if !ok {
				continue
			}
			if id == 0 {
				waits++
				l = after
				continue
			}
			if done[id] || len(l.Micro) > 0 && id != l.Micro[0].Id {
				t.Fatalf("%d is done: %+v", id, l)
			}
			done[id] = true
			if d, is := due[id]; is {
				if d[0] > l.Now || d[0] < last[0] || d[0] == last[0] && d[1] < last[1] {
					t.Fatalf("%v is done behind %v at %d", d, last, l.Now)
				}
				last = d
			}
			did++
			l = after
		}
		rest, ids := asksLoopRun(t, l, 100)
		for _, id := range ids {
			if done[id] {
				t.Fatal(id, "is done twice")
			}
			done[id] = true
		}
		if int64(len(done)) != rest.Next-1 {
			t.Fatal("not all are done", len(done), rest.Next)
		}
	}
	if did < 2000 || waits < 200 || full < 50 {
		t.Error("too much alike", did, waits, full)
	}
}

func TestVeryLongLoops(t *testing.T) {
	defer endsSoon("very long loops")()
	many := make([]impl.Task, 1<<20)
	timers := make([]impl.Timer, 1<<20)
	for i := range many {
		many[i].Id, timers[i].Task.Id = int64(i+1), int64(i+1)
	}
	l := loopNew(t, impl.HeapNew())
	l.Next = 1000000000
	for _, wrong := range []func(l *impl.Loop){
		func(l *impl.Loop) { l.Micro = many },
		func(l *impl.Loop) { l.Macro = many },
		func(l *impl.Loop) { l.Timers = timers },
		func(l *impl.Loop) { l.Micro = []impl.Task{task(1, make([]impl.Op, 1<<20)...)} },
	} {
		long := l
		wrong(&long)
		if impl.LoopOk(long) {
			t.Error("accepted")
		}
		if _, code := impl.Posted(long, true, nil); code != impl.HpWrong {
			t.Error(code)
		}
		if _, ids := impl.LoopRun(long, 100); len(ids) != 0 {
			t.Error(ids)
		}
	}
	putIs(t, "a million ops", l, 'm', 0, make([]impl.Op, 1<<20), impl.HpForm)
}

func sparedTasks(tasks []impl.Task) []impl.Task {
	tasks = withRoom(tasks, task(77))
	for i := range tasks {
		tasks[i].Ops = withRoom(tasks[i].Ops, impl.Op{Kind: 77})
	}
	return tasks
}

func sparedLoop(l impl.Loop) impl.Loop {
	l.Heap = sparedHeap(l.Heap)
	l.Micro, l.Macro, l.Timers = sparedTasks(l.Micro), sparedTasks(l.Macro), withRoom(l.Timers, timer(77, 77))
	for i := range l.Timers {
		l.Timers[i].Task.Ops = withRoom(l.Timers[i].Task.Ops, impl.Op{Kind: 77})
	}
	return l
}

// shownLoop tells a loop with the room behind its lists.
func shownLoop(l impl.Loop) string {
	s := fmt.Sprint(l.Now, l.Next, len(l.Micro), len(l.Macro), len(l.Timers), shown(l.Heap))
	show := func(x impl.Task) { s += fmt.Sprint(x.Id, len(x.Ops), x.Ops[:cap(x.Ops)]) }
	for _, x := range append(slices.Clone(l.Micro[:cap(l.Micro)]), l.Macro[:cap(l.Macro)]...) {
		show(x)
	}
	for _, x := range l.Timers[:cap(l.Timers)] {
		s += fmt.Sprint(x.At)
		show(x.Task)
	}
	return s
}

// loopAnswers are those of all functions of loops.
func loopAnswers(l impl.Loop, delay int64, ops []impl.Op, n int64) []any {
	first, ok := impl.LoopNew(l.Heap)
	micro, codeA := impl.Posted(l, true, ops)
	macro, codeB := impl.Posted(l, false, ops)
	late, codeC := impl.After(l, delay, ops)
	turned, id, is := impl.Turned(l)
	run, ids := impl.LoopRun(l, n)
	return []any{impl.LoopOk(l), first, ok, micro, codeA, macro, codeB, late, codeC, turned, id, is, run, ids}
}

func TestLoopsAreNewMemory(t *testing.T) {
	r := rand.New(rand.NewSource(144))
	given := []impl.Loop{{}, busyLoop(), fullLoop(), {Next: 1, Heap: impl.HeapNew()}, {Next: 9, Heap: impl.HeapNew(), Timers: timersFrom(3, 2, 4)}}
	for _, c := range brokenLoops {
		l := busyLoop()
		c.wrong(&l)
		given = append(given, l)
	}
	for range 80 {
		given = append(given, anyLoop(r, []impl.Heap{impl.HeapNew(), smallHeap(), fullHeap(), storyHeap(t)}, wanderOps()))
	}
	for at, one := range given {
		l := sparedLoop(one)
		for _, some := range [][]impl.Op{nil, {opElement("a", "p"), opDrop("z")}, slices.Repeat([]impl.Op{opObject("a")}, 7), {{}}} {
			ops := withRoom(some, impl.Op{Kind: 77})
			was, had := shownLoop(l), fmt.Sprint(len(ops), ops[:cap(ops)])
			delay, n := int64(at%5-1), int64(r.Intn(103)-1)
			answers, again := loopAnswers(l, delay, ops, n), loopAnswers(l, delay, ops, n)
			if !reflect.DeepEqual(answers, again) {
				t.Fatal("not the same answers", answers, again)
			}
			sharesNothing(t, append(answers, again...), []any{l, ops})
			if shownLoop(l) != was || fmt.Sprint(len(ops), ops[:cap(ops)]) != had {
				t.Fatal("written into", l, ops)
			}
		}
	}
}
