package tests

import (
	"fmt"
	"math"
	"math/rand"
	"reflect"
	"slices"
	"strings"
	"testing"

	"loop.example/g00376/impl"
)

// isData tells anew what a slot may hold.
func isData(s string) bool {
	rest := strings.TrimFunc(s, func(r rune) bool { return ' ' <= r && r <= '~' })
	return len(s) <= 10 && rest == ""
}

// isArena tells anew what a right arena is: Free, sorted, is the list of the
// places of all that are not Used.
func isArena(a impl.Arena) bool {
	if len(a.Slots) == 0 || len(a.Slots) > 12 {
		return false
	}
	var unused []int64
	for at, s := range a.Slots {
		if s.Gen <= 0 || s.Gen > 1000000 || !isData(s.Data) {
			return false
		}
		if !s.Used {
			unused = append(unused, int64(at))
		}
		if !s.Used && len(s.Data) > 0 {
			return false
		}
	}
	return slices.Equal(slices.Sorted(slices.Values(a.Free)), unused)
}

func sameArena(a, b impl.Arena) bool {
	return slices.Equal(a.Slots, b.Slots) && slices.Equal(a.Free, b.Free)
}

func arenaCopy(a impl.Arena) impl.Arena {
	return impl.Arena{Slots: slices.Clone(a.Slots), Free: slices.Clone(a.Free)}
}

// used and unused are slots of arenas that are written out.
func used(gen int64, data string) impl.Slot { return impl.Slot{Gen: gen, Used: true, Data: data} }
func unused(gen int64) impl.Slot            { return impl.Slot{Gen: gen} }

func arena(free []int64, slots ...impl.Slot) impl.Arena {
	return impl.Arena{Slots: slots, Free: free}
}

func handle(at, gen int64) impl.Handle { return impl.Handle{At: at, Gen: gen} }

// smallArena has slots of both kinds, and Free in an order that does not rise.
func smallArena() impl.Arena {
	return arena([]int64{4, 0, 3}, unused(1), used(3, "one"), used(1, ""), unused(7), unused(2), used(1000000, "0123456789"))
}

// The next four tell anew what comes of a right arena, by lists of slots alone.
func livesIn(a impl.Arena, h impl.Handle) bool {
	for at, s := range a.Slots {
		if int64(at) == h.At && s.Used && s.Gen == h.Gen {
			return true
		}
	}
	return false
}

func allocatedIn(a impl.Arena, data string) (impl.Arena, impl.Handle, bool) {
	if len(a.Free) == 0 || !isData(data) {
		return impl.Arena{}, impl.Handle{}, false
	}
	after, at := arenaCopy(a), a.Free[0]
	after.Free = after.Free[1:]
	after.Slots[at] = used(a.Slots[at].Gen, data)
	return after, handle(at, a.Slots[at].Gen), true
}

func releasedIn(a impl.Arena, h impl.Handle) (impl.Arena, bool) {
	if !livesIn(a, h) || h.Gen >= 1000000 {
		return impl.Arena{}, false
	}
	after := arenaCopy(a)
	after.Slots[h.At] = unused(h.Gen + 1)
	after.Free = append([]int64{h.At}, a.Free...)
	return after, true
}

func storedIn(a impl.Arena, h impl.Handle, data string) (impl.Arena, bool) {
	if !livesIn(a, h) || !isData(data) {
		return impl.Arena{}, false
	}
	after := arenaCopy(a)
	after.Slots[h.At] = used(h.Gen, data)
	return after, true
}

// asksHandle holds all that is told of one handle in a right arena against the
// tellings above.
func asksHandle(t *testing.T, a impl.Arena, h impl.Handle, data string) {
	t.Helper()
	lives, want := livesIn(a, h), ""
	if lives {
		want = a.Slots[h.At].Data
	}
	if s, ok := impl.Deref(a, h); ok != lives || s != want {
		t.Fatalf("%+v: %+v is %q %v, want %q %v", a, h, s, ok, want, lives)
	}
	left, is := releasedIn(a, h)
	if got, ok := impl.Released(a, h); ok != is || !sameArena(got, left) || ok && !isArena(got) {
		t.Fatalf("%+v: %+v released: %+v %v, want %+v %v", a, h, got, ok, left, is)
	}
	after, is := storedIn(a, h, data)
	if got, ok := impl.Stored(a, h, data); ok != is || !sameArena(got, after) || ok && !isArena(got) {
		t.Fatalf("%+v: %+v stored: %+v %v, want %+v %v", a, h, got, ok, after, is)
	}
}

// asksArena holds what is told of a right arena as a whole against them.
func asksArena(t *testing.T, a impl.Arena, data string) {
	t.Helper()
	if !impl.ArenaOk(a) || !isArena(a) {
		t.Fatalf("%+v is not right", a)
	}
	var all []impl.Handle
	for at, s := range a.Slots {
		if h := handle(int64(at), s.Gen); s.Used {
			all = append(all, h)
		}
	}
	if l := impl.HandlesOf(a); !slices.Equal(l, all) {
		t.Fatalf("%+v: handles %v, want %v", a, l, all)
	}
	after, h, is := allocatedIn(a, data)
	got, new, ok := impl.Allocated(a, data)
	if ok != is || new != h || !sameArena(got, after) || ok && !isArena(got) {
		t.Fatalf("%+v: allocated %q: %+v %+v %v, want %+v %+v %v", a, data, got, new, ok, after, h, is)
	}
}

// noArena asks for the answers that are fixed for what is not right.
func noArena(t *testing.T, what string, a impl.Arena) {
	t.Helper()
	if impl.ArenaOk(a) || isArena(a) {
		t.Error(what, "is right")
	}
	if after, h, ok := impl.Allocated(a, "a"); ok || h != handle(0, 0) || !sameArena(after, impl.Arena{}) {
		t.Error(what, "allocated", after, h, ok)
	}
	if l := impl.HandlesOf(a); len(l) != 0 {
		t.Error(what, "handles", l)
	}
	for at := range int64(7) {
		for gen := range int64(5) {
			noHandle(t, what, a, handle(at, gen))
		}
	}
}

// noHandle asks for the answers that are fixed for a handle that does not live.
func noHandle(t *testing.T, what string, a impl.Arena, h impl.Handle) {
	t.Helper()
	if s, ok := impl.Deref(a, h); ok || s != "" {
		t.Error(what, h, "is", s, ok)
	}
	if after, ok := impl.Released(a, h); ok || !sameArena(after, impl.Arena{}) {
		t.Error(what, h, "released", after, ok)
	}
	if after, ok := impl.Stored(a, h, "a"); ok || !sameArena(after, impl.Arena{}) {
		t.Error(what, h, "stored", after, ok)
	}
}

func TestConstantsOfArenas(t *testing.T) {
	if impl.MaxSlots != 12 || impl.MaxGen != 1000000 || impl.MaxValue != 10 {
		t.Error(impl.MaxSlots, impl.MaxGen, impl.MaxValue)
	}
}

func TestArenaNew(t *testing.T) {
	for _, n := range append(slices.Clone(idsOfNothing), 13, 14, 24, 100, 1<<32+5, math.MinInt64+5) {
		if a, ok := impl.ArenaNew(n); ok || !sameArena(a, impl.Arena{}) {
			t.Error(n, a, ok)
		}
	}
	for n := int64(1); n <= 12; n++ {
		a, ok := impl.ArenaNew(n)
		if !ok || !isArena(a) || int64(len(a.Slots)) != n || !slices.IsSorted(a.Free) {
			t.Fatal(n, a, ok)
		}
		for _, s := range a.Slots {
			if s != unused(1) {
				t.Error(n, s)
			}
		}
		asksArena(t, a, "a")
		for at := int64(-1); at <= n; at++ {
			noHandle(t, "in a new one", a, handle(at, 1))
		}
	}
}

func allocates(t *testing.T, a impl.Arena, data string, at, gen int64) impl.Arena {
	t.Helper()
	asksArena(t, a, data)
	after, h, ok := impl.Allocated(a, data)
	if !ok || h != handle(at, gen) {
		t.Fatalf("%+v: allocated %+v %v, want %d %d", a, h, ok, at, gen)
	}
	if s, ok := impl.Deref(after, h); !ok || s != data {
		t.Fatalf("%+v: %+v is %q %v", after, h, s, ok)
	}
	return after
}

func releases(t *testing.T, a impl.Arena, at, gen int64) impl.Arena {
	t.Helper()
	h := handle(at, gen)
	asksHandle(t, a, h, "a")
	after, ok := impl.Released(a, h)
	if !ok {
		t.Fatalf("%+v: %+v is not released", a, h)
	}
	noHandle(t, "released", after, h)
	return after
}

// What is released last is allocated first, with a Gen that is one more.
func TestOneArenaByHand(t *testing.T) {
	a, _ := impl.ArenaNew(3)
	a = allocates(t, a, "x", 0, 1)
	a = allocates(t, a, "", 1, 1)
	a = allocates(t, a, "y", 2, 1)
	a = releases(t, a, 0, 1)
	a = releases(t, a, 2, 1)
	a = releases(t, a, 1, 1)
	if !slices.Equal(a.Free, []int64{1, 2, 0}) {
		t.Error(a)
	}
	a = allocates(t, a, "z", 1, 2)
	a = allocates(t, a, "z", 2, 2)
	a = releases(t, a, 1, 2)
	a = allocates(t, a, "w", 1, 3)
	a = allocates(t, a, "v", 0, 2)
	want := arena(nil, used(2, "v"), used(3, "w"), used(2, "z"))
	if !sameArena(a, want) {
		t.Errorf("%+v", a)
	}
	for _, h := range []impl.Handle{{At: 0, Gen: 1}, {At: 1, Gen: 1}, {At: 2, Gen: 1}, {At: 1, Gen: 2}, {At: 1, Gen: 4}, {At: 0, Gen: 3}} {
		noHandle(t, "elder or to come", a, h)
	}
	if l := impl.HandlesOf(a); !slices.Equal(l, []impl.Handle{{At: 0, Gen: 2}, {At: 1, Gen: 3}, {At: 2, Gen: 2}}) {
		t.Error(l)
	}
	if got, h, ok := impl.Allocated(a, "a"); ok || h != handle(0, 0) || !sameArena(got, impl.Arena{}) {
		t.Error("nothing is free", got, h, ok)
	}
}

func TestSmallArena(t *testing.T) {
	a := smallArena()
	asksArena(t, a, "a")
	for at := int64(-2); at <= 8; at++ {
		for _, gen := range []int64{-1, 0, 1, 2, 3, 7, 8, 999999, 1000000, 1000001} {
			asksHandle(t, a, handle(at, gen), "b")
		}
	}
	if l := impl.HandlesOf(a); !slices.Equal(l, []impl.Handle{{At: 1, Gen: 3}, {At: 2, Gen: 1}, {At: 5, Gen: 1000000}}) {
		t.Error(l)
	}
	got, ok := impl.Stored(a, handle(1, 3), "two")
	if s, is := impl.Deref(got, handle(1, 3)); !ok || !is || s != "two" || !slices.Equal(got.Free, []int64{4, 0, 3}) {
		t.Error(got, s)
	}
	b := allocates(t, a, "a", 4, 2)
	b = allocates(t, b, "b", 0, 1)
	b = allocates(t, b, "c", 3, 7)
	if len(b.Free) != 0 || len(impl.HandlesOf(b)) != 6 {
		t.Error(b)
	}
}

// An empty text is data like another: its handle lives.
func TestEmptyDataLives(t *testing.T) {
	a := allocates(t, arena([]int64{0}, unused(5)), "", 0, 5)
	if s, ok := impl.Deref(a, handle(0, 5)); !ok || s != "" {
		t.Error(s, ok)
	}
	for _, data := range []string{"x", ""} {
		after, ok := impl.Stored(a, handle(0, 5), data)
		if s, is := impl.Deref(after, handle(0, 5)); !ok || !is || s != data {
			t.Error(after, s)
		}
		a = after
	}
	releases(t, a, 0, 5)
}

func TestSlotsOfArenas(t *testing.T) {
	for n := range 15 {
		var some, none impl.Arena
		for at := range n {
			some.Slots = append(some.Slots, used(int64(at+1), "a"))
			none.Slots = append(none.Slots, unused(int64(at+1)))
			none.Free = append([]int64{int64(at)}, none.Free...)
		}
		if n < 1 || n > 12 {
			noArena(t, fmt.Sprint(n, " used slots"), some)
			noArena(t, fmt.Sprint(n, " slots"), none)
			continue
		}
		asksArena(t, some, "b")
		asksArena(t, none, "b")
		for at := range int64(n) {
			asksHandle(t, some, handle(at, at+1), "b")
			asksHandle(t, none, handle(at, at+1), "b")
		}
	}
}

func TestGensOfSlots(t *testing.T) {
	for _, gen := range []int64{1, 2, 999999, 1000000} {
		asksArena(t, arena([]int64{0}, unused(gen), used(1, "")), "a")
		asksArena(t, arena([]int64{0}, unused(1), used(gen, "a")), "a")
		asksHandle(t, arena(nil, used(gen, "a")), handle(0, gen), "b")
	}
	for _, gen := range []int64{0, -1, 1000001, 1 << 32, 1<<32 + 1, math.MinInt64, math.MaxInt64} {
		noArena(t, fmt.Sprint("a Gen of ", gen), arena(nil, used(gen, "a"), used(1, "")))
		noArena(t, fmt.Sprint("a free Gen of ", gen), arena([]int64{1}, used(1, "a"), unused(gen)))
		noHandle(t, "of such a Gen", arena(nil, used(gen, "a")), handle(0, gen))
	}
}

// A slot with MaxGen is allocated as others are, but never released.
func TestLastGen(t *testing.T) {
	a := arena(nil, used(999999, "a"), used(1, "b"))
	a = releases(t, a, 0, 999999)
	a = allocates(t, a, "c", 0, 1000000)
	if got, ok := impl.Released(a, handle(0, 1000000)); ok || !sameArena(got, impl.Arena{}) {
		t.Error("released at MaxGen", got)
	}
	got, ok := impl.Stored(a, handle(0, 1000000), "d")
	if s, is := impl.Deref(got, handle(0, 1000000)); !ok || !is || s != "d" {
		t.Error(got, s)
	}
	releases(t, a, 1, 1)
	for _, gen := range []int64{1, 0, 1000001} {
		noHandle(t, "no such Gen", a, handle(0, gen))
	}
}

func TestDataOfSlots(t *testing.T) {
	a := arena([]int64{1}, used(2, "was"), unused(1))
	asks := func(data string) {
		t.Helper()
		asksArena(t, a, data)
		asksHandle(t, a, handle(0, 2), data)
		if !isData(data) {
			noArena(t, fmt.Sprintf("%q", data), arena(nil, used(2, data)))
		} else {
			asksArena(t, arena(nil, used(2, data)), "a")
		}
		if data != "" {
			noArena(t, fmt.Sprintf("%q where none is used", data), arena([]int64{0}, impl.Slot{Gen: 1, Data: data}))
		}
	}
	for b := range 256 {
		asks(string([]byte{byte(b)}))
		asks(string([]byte{'a', byte(b), 'c'}))
		asks("abcdefghi" + string([]byte{byte(b)}))
	}
	for n := range 14 {
		asks(strings.Repeat("~", n))
		asks(strings.Repeat(" ", n))
	}
	for _, data := range []string{"\x1f", " ", "~", "\x7f", "é", "ééééé", "a\n", "0123456789", "0123456789a", strings.Repeat("a", 1<<20)} {
		asks(data)
	}
	for _, c := range []struct {
		data string
		ok   bool
	}{{"\x1f", false}, {" ", true}, {"~", true}, {"\x7f", false}, {"0123456789", true}, {"0123456789a", false}, {"", true}} {
		if _, _, ok := impl.Allocated(a, c.data); ok != c.ok {
			t.Errorf("allocated %q: %v", c.data, ok)
		}
		if _, ok := impl.Stored(a, handle(0, 2), c.data); ok != c.ok {
			t.Errorf("stored %q: %v", c.data, ok)
		}
	}
}

// All that can be wrong with one right arena.
var brokenArenas = []struct {
	name  string
	wrong func(a *impl.Arena)
}{
	{"no slots", func(a *impl.Arena) { *a = impl.Arena{} }},
	{"no slots, but free ones", func(a *impl.Arena) { a.Slots = nil }},
	{"13 slots", func(a *impl.Arena) { a.Slots = append(a.Slots, slices.Repeat([]impl.Slot{used(1, "")}, 7)...) }},
	{"a Gen of 0", func(a *impl.Arena) { a.Slots[1].Gen = 0 }},
	{"a Gen below 0", func(a *impl.Arena) { a.Slots[0].Gen = -1 }},
	{"a Gen above MaxGen", func(a *impl.Arena) { a.Slots[5].Gen = 1000001 }},
	{"data too long", func(a *impl.Arena) { a.Slots[5].Data += "a" }},
	{"data with a byte too low", func(a *impl.Arena) { a.Slots[1].Data = "a\x1f" }},
	{"data with a byte too high", func(a *impl.Arena) { a.Slots[1].Data = "\x7fa" }},
	{"data in a slot that is not used", func(a *impl.Arena) { a.Slots[3].Data = "a" }},
	{"a blank in a slot that is not used", func(a *impl.Arena) { a.Slots[4].Data = " " }},
	{"a used slot is free", func(a *impl.Arena) { a.Free = append(a.Free, 2) }},
	{"a used slot is free in the place of another", func(a *impl.Arena) { a.Free[1] = 2 }},
	{"a slot twice free", func(a *impl.Arena) { a.Free = append(a.Free, 4) }},
	{"a slot twice free in the place of another", func(a *impl.Arena) { a.Free[2] = 4 }},
	{"one is not free", func(a *impl.Arena) { a.Free = a.Free[:2] }},
	{"the first is not free", func(a *impl.Arena) { a.Free = a.Free[1:] }},
	{"none is free", func(a *impl.Arena) { a.Free = nil }},
	{"a free one that is none", func(a *impl.Arena) { a.Free[0] = 6 }},
	{"one more free that is none", func(a *impl.Arena) { a.Free = append(a.Free, 6) }},
	{"a free one below 0", func(a *impl.Arena) { a.Free[1] = -1 }},
	{"a free one far below 0", func(a *impl.Arena) { a.Free[1] = math.MinInt64 }},
	{"a free one far above all", func(a *impl.Arena) { a.Free[2] = math.MaxInt64 }},
	{"a free one that is right but for 32 bits more", func(a *impl.Arena) { a.Free[0] = 1<<32 + 4 }},
	{"one that is free is used", func(a *impl.Arena) { a.Slots[0].Used = true }},
	{"one that is used is not, and not free", func(a *impl.Arena) { a.Slots[2].Used = false }},
	{"one slot less", func(a *impl.Arena) { a.Slots = a.Slots[:4] }},
	{"one slot more, not used", func(a *impl.Arena) { a.Slots = append(a.Slots, unused(1)) }},
}

func TestClausesOfArenas(t *testing.T) {
	asksArena(t, smallArena(), "a")
	for _, c := range brokenArenas {
		a := smallArena()
		c.wrong(&a)
		noArena(t, c.name, a)
	}
}

func TestHandlesOfNothing(t *testing.T) {
	a := smallArena()
	for _, n := range append(slices.Clone(idsOfNothing), 6, 7, 12, 1<<32+1) {
		for _, gen := range []int64{0, 1, 3, 1000000} {
			noHandle(t, "no slot", a, handle(n, gen))
		}
		noHandle(t, "no such Gen", a, handle(1, n))
		noHandle(t, "no such Gen", a, handle(2, n))
	}
	for _, at := range []int64{0, 3, 4} { // not Used, whatever the Gen
		for gen := range int64(9) {
			noHandle(t, "not used", a, handle(at, gen))
		}
	}
}

// Every list of Free beside every choice of slots, of few of them.
func TestAllFewArenas(t *testing.T) {
	defer endsSoon("few arenas")()
	kinds := []impl.Slot{unused(1), unused(2), used(1, ""), used(2, "a"), used(1000000, "b"), {Gen: 1, Data: "c"}}
	right, wrong := 0, 0
	for n := 1; n <= 3; n++ {
		for _, places := range placesIn(n) {
			each(kinds, n, func(slots []impl.Slot) {
				a := arena(places, slots...)
				if impl.ArenaOk(a) != isArena(a) {
					t.Fatalf("%+v: %v", a, impl.ArenaOk(a))
				}
				if !isArena(a) {
					wrong++
					if wrong%53 == 0 {
						noArena(t, "one of few", a)
					}
					return
				}
				right++
				asksArena(t, a, "d")
				for at := int64(-1); at <= int64(n); at++ {
					for _, gen := range []int64{0, 1, 2, 3, 1000000} {
						asksHandle(t, a, handle(at, gen), "d")
					}
				}
			})
		}
	}
	if right < 100 || wrong < 10000 {
		t.Error("too much alike", right, wrong)
	}
}

// placesIn are all lists of at most n+1 places from -1 to n.
func placesIn(n int) [][]int64 {
	all := [][]int64{nil}
	for at := 0; at < len(all); at++ {
		if len(all[at]) > n {
			continue
		}
		for p := int64(-1); p <= int64(n); p++ {
			all = append(all, append(slices.Clone(all[at]), p))
		}
	}
	return all
}

// each goes through all lists of n of these.
func each[T any](of []T, n int, do func(l []T)) {
	if n == 0 {
		do(nil)
		return
	}
	each(of, n-1, func(l []T) {
		for _, one := range of {
			do(append(slices.Clone(l), one))
		}
	})
}

// Free may have any order, and the first of it is taken, whichever that is.
func TestFreeInAnyOrder(t *testing.T) {
	for _, free := range permutations([]int64{0, 2, 3, 5}) {
		a := arena(free, unused(1), used(4, "a"), unused(2), unused(9), used(1, ""), unused(3))
		gens := []int64{1, 0, 2, 9, 0, 3}
		asksHandle(t, a, handle(1, 4), "b")
		for _, at := range free {
			a = allocates(t, a, "b", at, gens[at])
		}
		if len(a.Free) != 0 {
			t.Error(a)
		}
		for _, at := range free {
			a = releases(t, a, at, gens[at])
			if a.Free[0] != at {
				t.Error(a)
			}
		}
	}
}

// Promise 11, over long ways: who was handed a handle finds its data there until
// it releases it, and nothing ever after.
func TestHandlesNeverComeToLifeAgain(t *testing.T) {
	r := rand.New(rand.NewSource(11))
	made, reused, full := 0, 0, 0
	for way := range 60 {
		a, _ := impl.ArenaNew(int64(1 + way%12))
		live, dead := map[impl.Handle]string{}, map[impl.Handle]bool{}
		for step := range 150 {
			data := fmt.Sprint("d", step)
			all := impl.HandlesOf(a)
			switch kind := r.Intn(5); {
			case kind < 2 || len(all) == 0:
				after, h, ok := impl.Allocated(a, data)
				if ok != (len(live) < len(a.Slots)) {
					t.Fatal(a, ok)
				}
				if !ok {
					full++
					continue
				}
				if _, twice := live[h]; twice || dead[h] {
					t.Fatalf("%+v: %+v was there", a, h)
				}
				if h.Gen > 1 {
					reused++
				}
				a, live[h] = after, data
				made++
			case kind == 2:
				h := all[r.Intn(len(all))]
				a, _ = impl.Stored(a, h, data)
				live[h] = data
			default:
				h := all[r.Intn(len(all))]
				a, _ = impl.Released(a, h)
				delete(live, h)
				dead[h] = true
			}
			asksLive(t, a, live, dead)
		}
	}
	if made < 1000 || reused < 500 || full < 100 {
		t.Error("too much alike", made, reused, full)
	}
}

func asksLive(t *testing.T, a impl.Arena, live map[impl.Handle]string, dead map[impl.Handle]bool) {
	t.Helper()
	if !isArena(a) || len(impl.HandlesOf(a)) != len(live) {
		t.Fatalf("%+v: %v", a, live)
	}
	for h, data := range live {
		if s, ok := impl.Deref(a, h); !ok || s != data {
			t.Fatalf("%+v: %+v is %q %v, want %q", a, h, s, ok, data)
		}
	}
	for h := range dead {
		if s, ok := impl.Deref(a, h); ok {
			t.Fatalf("%+v: %+v is there again: %q", a, h, s)
		}
	}
}

// One slot alone, until its Gen is the last one.
func TestOneSlotUntilItsLastGen(t *testing.T) {
	a := arena([]int64{0}, unused(999990))
	var all []impl.Handle
	for gen := int64(999990); gen < 1000000; gen++ {
		a = allocates(t, a, "a", 0, gen)
		all = append(all, handle(0, gen))
		a = releases(t, a, 0, gen)
	}
	a = allocates(t, a, "last", 0, 1000000)
	for _, h := range all {
		noHandle(t, "released", a, h)
	}
	if _, ok := impl.Released(a, handle(0, 1000000)); ok {
		t.Error("released at MaxGen")
	}
	if _, _, ok := impl.Allocated(a, "a"); ok {
		t.Error("nothing is free")
	}
}

func TestVeryLongArenas(t *testing.T) {
	defer endsSoon("very long arenas")()
	many := make([]int64, 1<<20)
	for i := range many {
		many[i] = int64(i)
	}
	noArena(t, "very many free", arena(many, unused(1), unused(1)))
	noArena(t, "one very often free", arena(make([]int64, 1<<20), unused(1)))
	noArena(t, "very many slots", arena(many, slices.Repeat([]impl.Slot{unused(1)}, 1<<20)...))
	noArena(t, "very many used slots", arena(nil, slices.Repeat([]impl.Slot{used(1, "a")}, 1<<20)...))
	noArena(t, "very long data", arena(nil, used(1, strings.Repeat("a", 1<<24))))
}

func sparedArena(a impl.Arena) impl.Arena {
	return impl.Arena{Slots: withRoom(a.Slots, used(77, "spare")), Free: withRoom(a.Free, 77)}
}

func shownArena(a impl.Arena) string {
	return fmt.Sprint(len(a.Slots), len(a.Free), a.Slots[:cap(a.Slots)], a.Free[:cap(a.Free)])
}

// arenaAnswers are those of all functions of arenas.
func arenaAnswers(a impl.Arena, h impl.Handle, data string) []any {
	after, new, ok := impl.Allocated(a, data)
	left, is := impl.Released(a, h)
	s, there := impl.Deref(a, h)
	got, did := impl.Stored(a, h, data)
	first, made := impl.ArenaNew(int64(len(a.Slots)))
	return []any{impl.ArenaOk(a), impl.HandlesOf(a), after, new, ok, left, is, s, there, got, did, first, made}
}

func TestArenasAreNewMemory(t *testing.T) {
	none, _ := impl.ArenaNew(12)
	wrong := smallArena()
	wrong.Free[0] = 1
	one := arena(nil, used(1, "a"))
	last := arena([]int64{0}, unused(1), used(3, "a"))
	for _, given := range []impl.Arena{none, smallArena(), one, last, wrong, {}} {
		a := sparedArena(given)
		was := shownArena(a)
		for _, h := range []impl.Handle{handle(0, 1), handle(1, 3), handle(5, 1000000), handle(9, 9)} {
			for _, data := range []string{"", "new", "\x7f"} {
				answers, again := arenaAnswers(a, h, data), arenaAnswers(a, h, data)
				if !reflect.DeepEqual(answers, again) {
					t.Fatal("not the same answers", answers, again)
				}
				sharesNothing(t, append(answers, again...), []any{a})
			}
		}
		if shownArena(a) != was {
			t.Fatal("written into", a)
		}
	}
}
