package tests

import (
	"fmt"
	"math"
	"math/rand"
	"reflect"
	"slices"
	"strings"
	"testing"

	"loop.example/g00376/impl"
)

func edInsert(x impl.Tree, places ...int64) impl.Edit {
	return impl.Edit{Kind: impl.EdInsert, Path: places, Tree: x}
}

func edDelete(places ...int64) impl.Edit { return impl.Edit{Kind: impl.EdDelete, Path: places} }

func edRename(tag string, places ...int64) impl.Edit {
	return impl.Edit{Kind: impl.EdRename, Path: places, Tag: tag}
}

func isNoTree(x impl.Tree) bool { return x.Tag == "" && len(x.Kids) == 0 }

func sameEdit(a, b impl.Edit) bool {
	return a.Kind == b.Kind && slices.Equal(a.Path, b.Path) && a.Tag == b.Tag && sameTree(a.Tree, b.Tree)
}

func spotAt(spots []spot, path []int64) (spot, bool) {
	for _, s := range spots {
		if slices.Equal(s.path, path) {
			return s, true
		}
	}
	return spot{}, false
}

// tagAt is the tag of the node whose text this is.
func tagAt(text string) string { return anyTag.FindStringSubmatch(text)[2] }

// editedText is the document's rule told of a right tree's text alone, and the
// edit that leads back.
func editedText(text string, e impl.Edit) (string, impl.Edit, bool) {
	spots := spotsOf(text)
	at, there := spotAt(spots, e.Path)
	var after string
	var back impl.Edit
	switch e.Kind {
	case impl.EdInsert:
		more := impl.TreeText(e.Tree)
		if len(e.Path) == 0 || e.Tag != "" || more == "" {
			return "", back, false
		}
		last := len(e.Path) - 1
		above, ok := spotAt(spots, e.Path[:last])
		place := at.from
		if ok && e.Path[last] == above.kids {
			place, there = above.to-len("</"+tagAt(text[above.from:])+">"), true
		}
		if !there {
			return "", back, false
		}
		after = text[:place] + more + text[place:]
		back = edDelete(e.Path...)
	case impl.EdDelete:
		if len(e.Path) == 0 || e.Tag != "" || !isNoTree(e.Tree) || !there {
			return "", back, false
		}
		gone, _ := impl.ReadTree(text[at.from:at.to])
		after = text[:at.from] + text[at.to:]
		back = edInsert(gone, e.Path...)
	case impl.EdRename:
		if !isName(e.Tag) || !isNoTree(e.Tree) || !there {
			return "", back, false
		}
		tag := tagAt(text[at.from:])
		inner := text[at.from+len("<"+tag+">") : at.to-len("</"+tag+">")]
		after = text[:at.from] + "<" + e.Tag + ">" + inner + "</" + e.Tag + ">" + text[at.to:]
		back = edRename(tag, e.Path...)
	default:
		return "", back, false
	}
	return after, back, isTreeText(after)
}

// asksEdit holds what is told of an edit of a right tree against the text.
func asksEdit(t *testing.T, x impl.Tree, e impl.Edit) bool {
	t.Helper()
	text := impl.TreeText(x)
	want, back, ok := editedText(text, e)
	got, edited := impl.Edited(x, e)
	undo, undone := impl.Undone(x, e)
	if edited != ok || undone != ok || impl.EditOk(x, e) != ok {
		t.Fatalf("%s, %+v: %v %v %v, want %v", text, e, edited, undone, impl.EditOk(x, e), ok)
	}
	if !ok {
		if !isNoTree(got) || !sameEdit(undo, impl.Edit{}) {
			t.Fatalf("%s, %+v: false, with %v and %+v", text, e, got, undo)
		}
		return false
	}
	if impl.TreeText(got) != want || !sameEdit(undo, back) {
		t.Fatalf("%s, %+v: %s, want %s; back by %+v, want %+v", text, e, impl.TreeText(got), want, undo, back)
	}
	if was, ok := impl.Edited(got, undo); !ok || !sameTree(was, x) {
		t.Fatalf("%s, %+v: back by %+v there is %s", text, e, undo, impl.TreeText(was))
	}
	if again, ok := impl.Undone(got, undo); !ok || !sameEdit(again, e) {
		t.Fatalf("%s, %+v: what is undone twice is %+v", text, e, again)
	}
	return true
}

// noEdit asks of any tree, right or not.
func noEdit(t *testing.T, what any, x impl.Tree, e impl.Edit) {
	t.Helper()
	got, edited := impl.Edited(x, e)
	back, undone := impl.Undone(x, e)
	if edited || undone || impl.EditOk(x, e) || !isNoTree(got) || !sameEdit(back, impl.Edit{}) {
		t.Errorf("%v: %v %v %v %v", what, edited, undone, got, back)
	}
	if all, ok := impl.EditedAll(x, []impl.Edit{e}); ok || !isNoTree(all) {
		t.Errorf("%v: all: %v %v", what, ok, all)
	}
}

func TestConstantsOfEdits(t *testing.T) {
	if got := []int64{impl.EdInsert, impl.EdDelete, impl.EdRename, impl.MaxEdits}; !slices.Equal(got, []int64{1, 2, 3, 100}) {
		t.Error(got)
	}
}

func TestEditsByHand(t *testing.T) {
	const text = "<a><b><c></c><d></d></b><e></e></a>"
	x := readTree(t, text)
	b := readTree(t, "<b><c></c><d></d></b>")
	new := node("x", leaf("y"))
	for _, c := range []struct {
		edit, back impl.Edit
		want       string
	}{
		{edInsert(new, 0), edDelete(0), "<a><x><y></y></x><b><c></c><d></d></b><e></e></a>"},
		{edInsert(new, 1), edDelete(1), "<a><b><c></c><d></d></b><x><y></y></x><e></e></a>"},
		{edInsert(new, 2), edDelete(2), "<a><b><c></c><d></d></b><e></e><x><y></y></x></a>"},
		{edInsert(new, 0, 0), edDelete(0, 0), "<a><b><x><y></y></x><c></c><d></d></b><e></e></a>"},
		{edInsert(new, 0, 2), edDelete(0, 2), "<a><b><c></c><d></d><x><y></y></x></b><e></e></a>"},
		{edInsert(leaf("x"), 1, 0), edDelete(1, 0), "<a><b><c></c><d></d></b><e><x></x></e></a>"},
		{edInsert(leaf("x"), 0, 1, 0), edDelete(0, 1, 0), "<a><b><c></c><d><x></x></d></b><e></e></a>"},
		{edDelete(0), edInsert(b, 0), "<a><e></e></a>"},
		{edDelete(1), edInsert(leaf("e"), 1), "<a><b><c></c><d></d></b></a>"},
		{edDelete(0, 0), edInsert(leaf("c"), 0, 0), "<a><b><d></d></b><e></e></a>"},
		{edDelete(0, 1), edInsert(leaf("d"), 0, 1), "<a><b><c></c></b><e></e></a>"},
		{edRename("x"), edRename("a"), "<x><b><c></c><d></d></b><e></e></x>"},
		{edRename("abcdef", 0), edRename("b", 0), "<a><abcdef><c></c><d></d></abcdef><e></e></a>"},
		{edRename("x", 0, 1), edRename("d", 0, 1), "<a><b><c></c><x></x></b><e></e></a>"},
		{edRename("a"), edRename("a"), text},
		{edRename("e", 1), edRename("e", 1), text},
	} {
		got, ok := impl.Edited(x, c.edit)
		back, undone := impl.Undone(x, c.edit)
		if !ok || !undone || !impl.EditOk(x, c.edit) || impl.TreeText(got) != c.want || !sameEdit(back, c.back) {
			t.Errorf("%+v: %s %v, want %s; %+v %v", c.edit, impl.TreeText(got), ok, c.want, back, undone)
		}
		if was, ok := impl.Edited(got, back); !ok || impl.TreeText(was) != text {
			t.Errorf("%+v: back there is %s", c.edit, impl.TreeText(was))
		}
	}
}

func TestEditsOfTheRoot(t *testing.T) {
	for _, x := range []impl.Tree{leaf("a"), node("a", leaf("b")), chain("a", 30)} {
		for _, e := range []impl.Edit{
			edInsert(leaf("b")), edDelete(), {Kind: impl.EdInsert, Path: []int64{}, Tree: leaf("b")}, {Kind: impl.EdDelete, Path: []int64{}}, edInsert(impl.Tree{}), edInsert(x),
		} {
			noEdit(t, e, x, e)
		}
		got, ok := impl.Edited(x, edRename("z"))
		if !ok || got.Tag != "z" || !slices.EqualFunc(got.Kids, x.Kids, sameTree) {
			t.Error(impl.TreeText(got), ok)
		}
	}
}

func TestPlacesOfInserts(t *testing.T) {
	for n := range 6 {
		x := star("a", n+1)
		for place := int64(-3); place < 10; place++ {
			e := edInsert(leaf("b"), place)
			if got := impl.EditOk(x, e); got != (0 <= place && place <= int64(n)) {
				t.Errorf("at %d of %d kids: %v", place, n, got)
			}
			if got := impl.EditOk(x, edDelete(place)); got != (0 <= place && place < int64(n)) {
				t.Errorf("without %d of %d kids: %v", place, n, got)
			}
			if got := impl.EditOk(x, edRename("b", place)); got != (0 <= place && place < int64(n)) {
				t.Errorf("%d of %d kids renamed: %v", place, n, got)
			}
			asksEdit(t, x, e)
			asksEdit(t, node("r", leaf("q"), x), edInsert(leaf("b"), 1, place))
			asksEdit(t, node("r", x, leaf("q")), edInsert(leaf("b"), 0, place, 0))
		}
	}
}

func TestPathsOfEditsThatLeadNowhere(t *testing.T) {
	trees := smallTrees()[:66]
	trees = append(trees, chain("a", 29), star("a", 29), comb("ab", 29))
	for _, x := range trees {
		spots := spotsOf(impl.TreeText(x))
		for _, p := range pathsNowhere(x) {
			noEdit(t, p, x, edDelete(p...))
			noEdit(t, p, x, edRename("b", p...))
			last := len(p) - 1
			if s, ok := spotAt(spots, p[:last]); ok && s.kids == p[last] {
				asksEdit(t, x, edInsert(leaf("b"), p...))
			} else {
				noEdit(t, p, x, edInsert(leaf("b"), p...))
			}
		}
	}
}

func TestKindsOfEdits(t *testing.T) {
	x := node("a", leaf("b"), leaf("c"))
	full := []impl.Edit{{}, {Path: path(0)}, {Path: path(0), Tag: "b"}, {Path: path(0), Tree: leaf("b")}, {Tag: "b"}, {Path: path(2), Tree: leaf("b")}, {Path: path(0), Tag: "b", Tree: leaf("b")}}
	for _, kind := range []int64{0, 4, 5, -1, -2, -3, math.MaxInt64, math.MinInt64, 1 << 32, 1<<32 + 1, 1<<32 + 2, 1<<32 + 3, 257, 258, 259} {
		for _, e := range full {
			e.Kind = kind
			noEdit(t, e, x, e)
		}
	}
}

func TestFieldsThatAKindDoesNotName(t *testing.T) {
	x := node("a", leaf("b"), leaf("c"))
	for i, e := range []impl.Edit{
		{Kind: impl.EdInsert, Path: path(0), Tag: "b", Tree: leaf("b")}, {Kind: impl.EdInsert, Path: path(0), Tag: "A", Tree: leaf("b")},
		{Kind: impl.EdDelete, Path: path(0), Tag: "b"}, {Kind: impl.EdDelete, Path: path(0), Tag: "\x00"},
		{Kind: impl.EdDelete, Path: path(0), Tree: leaf("b")}, {Kind: impl.EdDelete, Path: path(0), Tree: leaf("B")}, {Kind: impl.EdDelete, Path: path(0), Tree: impl.Tree{Kids: []impl.Tree{{}}}},
		{Kind: impl.EdRename, Tag: "b", Tree: leaf("b")}, {Kind: impl.EdRename, Path: path(0), Tag: "b", Tree: leaf("B")}, {Kind: impl.EdRename, Path: path(0), Tag: "b", Tree: impl.Tree{Kids: []impl.Tree{leaf("a")}}},
		{Kind: impl.EdRename, Path: path(0), Tree: leaf("b")}, {Kind: impl.EdDelete, Path: path(0), Tag: "b", Tree: leaf("b")},
	} {
		noEdit(t, i, x, e)
	}
	empty := impl.Tree{Kids: []impl.Tree{}}
	for _, e := range []impl.Edit{
		{Kind: impl.EdDelete, Path: path(0), Tree: empty}, {Kind: impl.EdRename, Path: path(0), Tag: "x", Tree: empty}, {Kind: impl.EdRename, Path: []int64{}, Tag: "x", Tree: empty},
		{Kind: impl.EdInsert, Path: path(0), Tree: impl.Tree{Tag: "x", Kids: []impl.Tree{}}},
	} {
		if !asksEdit(t, x, e) {
			t.Errorf("%+v: an empty list and none are the same", e)
		}
	}
}

func TestTagsOfRenames(t *testing.T) {
	x := node("a", node("b", leaf("c")))
	for _, tag := range []string{"", "a", "z", "abcdef", "abcdefg", "A", "a1", "*", "a ", " ", "é", "<a>", "\x00", strings.Repeat("a", 1<<20)} {
		for _, p := range [][]int64{nil, {0}, {0, 0}} {
			e := edRename(tag, p...)
			if got := asksEdit(t, x, e); got != impl.NameOk(tag) {
				t.Errorf("%q: %v", tag, got)
			}
		}
	}
}

func TestEditsOfTreesNotRight(t *testing.T) {
	defer endsSoon("edits of trees not right")()
	x := node("a", leaf("b"))
	for what, bad := range treesNotRight() {
		for _, e := range []impl.Edit{edRename("b"), edRename("b", 0), edDelete(0), edInsert(leaf("b"), 0), edInsert(leaf("b"), 1), edDelete(0, 0), edDelete(1)} {
			noEdit(t, what, bad, e)
		}
		noEdit(t, what, x, edInsert(bad, 0))
		noEdit(t, what, x, edInsert(bad, 1))
		noEdit(t, what, x, impl.Edit{Kind: impl.EdRename, Tag: "b", Tree: node("a", bad)})
		if got, ok := impl.EditedAll(bad, nil); ok || !isNoTree(got) {
			t.Error(what, got)
		}
		for _, pair := range [][2]impl.Tree{{bad, x}, {x, bad}, {bad, bad}} {
			if l, ok := impl.Diffed(pair[0], pair[1]); ok || len(l) != 0 {
				t.Error(what, l)
			}
		}
	}
	// What is taken out of a tree that is not right, or put right in it, leaves none.
	noEdit(t, "31 without one", star("a", 31), edDelete(0))
	noEdit(t, "a wrong tag without it", node("a", leaf("B")), edDelete(0))
	noEdit(t, "a wrong tag named anew", node("a", leaf("B")), edRename("b", 0))
	noEdit(t, "a wrong root named anew", leaf(""), edRename("b"))
}

func TestNodesBehindAnInsert(t *testing.T) {
	for name, shape := range shapes {
		for size := 1; size <= 30; size++ {
			for more := 1; more <= 31; more++ {
				x := shape("a", size)
				if got, want := impl.EditOk(x, edInsert(shape("b", more), 0)), size+more <= 30; got != want {
					t.Errorf("%s: %d and %d: %v", name, size, more, got)
				}
			}
		}
	}
	for _, c := range []struct {
		size, more int
	}{{1, 29}, {1, 30}, {15, 15}, {15, 16}, {29, 1}, {29, 2}, {30, 1}, {28, 2}} {
		for _, x := range []impl.Tree{chain("a", c.size), star("a", c.size), comb("a", c.size)} {
			for _, y := range []impl.Tree{chain("b", c.more), star("b", c.more)} {
				for _, s := range spotsOf(impl.TreeText(x)) {
					if got := asksEdit(t, x, edInsert(y, append(slices.Clone(s.path), s.kids)...)); got != (c.size+c.more <= 30) {
						t.Error(c, got)
					}
				}
			}
		}
	}
}

// Each edit at each place of each small tree.
func TestFewEdits(t *testing.T) {
	parts := []impl.Tree{leaf("a"), leaf("z"), node("b", leaf("a"), leaf("b")), {}, leaf("B")}
	done := map[int64]int{}
	for _, x := range smallTrees() {
		for _, s := range spotsOf(impl.TreeText(x)) {
			var edits []impl.Edit
			for place := int64(-1); place <= s.kids+1; place++ {
				p := append(slices.Clone(s.path), place)
				for _, part := range parts {
					edits = append(edits, edInsert(part, p...))
				}
				edits = append(edits, edDelete(p...), edRename("b", p...))
			}
			for _, tag := range []string{"a", "b", "ab", "", "A"} {
				edits = append(edits, edRename(tag, s.path...))
			}
			for _, e := range edits {
				if asksEdit(t, x, e) {
					done[e.Kind]++
				}
			}
		}
	}
	if len(done) != 3 {
		t.Error(done)
	}
}

// randomEdit is one that may be refused now and then.
func randomEdit(r *rand.Rand, x impl.Tree) impl.Edit {
	tags := []string{"a", "b", "c", "ab"}
	spots := spotsOf(impl.TreeText(x))
	s := spots[r.Intn(len(spots))]
	e := impl.Edit{Kind: 1 + r.Int63n(3), Path: s.path}
	switch e.Kind {
	case impl.EdInsert:
		e.Path = append(slices.Clone(s.path), r.Int63n(s.kids+1))
		e.Tree = randomTree(r, 1+r.Intn(4), tags)
	case impl.EdRename:
		e.Tag = tags[r.Intn(4)]
	}
	if r.Intn(30) == 0 {
		e.Path = append(slices.Clone(e.Path), r.Int63n(4)-1)
	}
	if r.Intn(60) == 0 {
		e.Tag += "b"
	}
	return e
}

func TestRandomEdits(t *testing.T) {
	r := rand.New(rand.NewSource(10))
	done, refused := 0, 0
	for range 4000 {
		x := randomTree(r, 1+r.Intn(30), []string{"a", "b", "c", "ab"})
		for range 5 {
			if asksEdit(t, x, randomEdit(r, x)) {
				done++
			} else {
				refused++
			}
		}
	}
	if done < 1000 || refused < 1000 {
		t.Error(done, refused)
	}
}

func TestEditsOneByOne(t *testing.T) {
	x := readTree(t, "<a><b></b></a>")
	l := []impl.Edit{edInsert(leaf("c"), 1), edInsert(leaf("d"), 1, 0), edRename("z"), edDelete(0), edInsert(leaf("e"), 0, 1), edRename("y", 0, 0)}
	for n, want := range []string{
		"<a><b></b></a>", "<a><b></b><c></c></a>", "<a><b></b><c><d></d></c></a>", "<z><b></b><c><d></d></c></z>",
		"<z><c><d></d></c></z>", "<z><c><d></d><e></e></c></z>", "<z><c><y></y><e></e></c></z>",
	} {
		if got, ok := impl.EditedAll(x, l[:n]); !ok || impl.TreeText(got) != want {
			t.Errorf("%d: %s %v, want %s", n, impl.TreeText(got), ok, want)
		}
	}
	for at := range len(l) + 1 {
		for _, bad := range []impl.Edit{{}, edDelete(), edDelete(9), edInsert(chain("a", 30), 0)} {
			if got, ok := impl.EditedAll(x, slices.Insert(slices.Clone(l), at, bad)); ok || !isNoTree(got) {
				t.Errorf("%+v at %d: %s", bad, at, impl.TreeText(got))
			}
		}
	}
	// The second one leads nowhere when the first one is made.
	if got, ok := impl.EditedAll(x, []impl.Edit{edDelete(0), edDelete(0)}); ok {
		t.Error(impl.TreeText(got))
	}
	// 31 on the way are too many, even if the next one takes them away.
	if got, ok := impl.EditedAll(star("a", 30), []impl.Edit{edInsert(leaf("b"), 0), edDelete(0)}); ok {
		t.Error(impl.TreeText(got))
	}
	if got, ok := impl.EditedAll(star("a", 30), []impl.Edit{edDelete(0), edInsert(leaf("b"), 0)}); !ok || impl.SizeOf(got) != 30 {
		t.Error(impl.TreeText(got))
	}
}

func TestHowManyEdits(t *testing.T) {
	x := node("a", leaf("b"))
	for _, n := range []int{0, 1, 2, 99, 100, 101, 102, 200, 1 << 16} {
		for _, e := range []impl.Edit{edRename("c"), edRename("d", 0)} {
			got, ok := impl.EditedAll(x, slices.Repeat([]impl.Edit{e}, n))
			if ok != (n <= 100) || !ok && !isNoTree(got) {
				t.Errorf("%d: %v %v", n, ok, got)
			}
			if want, _ := impl.Edited(x, e); ok && n > 0 && !sameTree(got, want) || n == 0 && !sameTree(got, x) {
				t.Errorf("%d: %s", n, impl.TreeText(got))
			}
		}
	}
	if _, ok := impl.EditedAll(impl.Tree{}, slices.Repeat([]impl.Edit{edRename("c")}, 101)); ok {
		t.Error("both wrong")
	}
}

// Promise 10, its first two thirds: edits one behind another, undone backwards.
func TestUndoneBackwards(t *testing.T) {
	r := rand.New(rand.NewSource(12))
	longest := 0
	for range 400 {
		was := randomTree(r, 1+r.Intn(20), []string{"a", "b", "c", "ab"})
		x := was
		var edits, backs []impl.Edit
		for len(edits) < 100 && r.Intn(80) > 0 {
			e := randomEdit(r, x)
			after, ok := impl.Edited(x, e)
			if !ok {
				continue
			}
			back, _ := impl.Undone(x, e)
			if !impl.TreeOk(after) {
				t.Fatalf("%+v leaves %v", e, after)
			}
			edits, backs = append(edits, e), append([]impl.Edit{back}, backs...)
			x = after
		}
		longest = max(longest, len(edits))
		if got, ok := impl.EditedAll(was, edits); !ok || !sameTree(got, x) {
			t.Fatalf("%s: %s, want %s", impl.TreeText(was), impl.TreeText(got), impl.TreeText(x))
		}
		if got, ok := impl.EditedAll(x, backs); !ok || !sameTree(got, was) {
			t.Fatalf("back at %s, not at %s", impl.TreeText(got), impl.TreeText(was))
		}
	}
	if longest < 100 {
		t.Error("too few at once", longest)
	}
}

func editText(e impl.Edit) string {
	return fmt.Sprint([]string{"?", "in", "out", "tag"}[e.Kind], e.Path, e.Tag, impl.TreeText(e.Tree))
}

func TestDifferencesByHand(t *testing.T) {
	for _, c := range []struct {
		a, b string
		want []string
	}{
		{"<a></a>", "<a></a>", nil},
		{"<a><b></b><c><d></d></c></a>", "<a><b></b><c><d></d></c></a>", nil},
		{"<a></a>", "<b></b>", []string{"tag[]b"}},
		{"<a><b></b></a>", "<a></a>", []string{"out[0]"}},
		{"<a></a>", "<a><b><c></c></b></a>", []string{"in[0]<b><c></c></b>"}},
		{"<a><b></b></a>", "<a><b><c></c></b></a>", []string{"in[0 0]<c></c>"}},
		{"<a><b></b><c></c><d></d></a>", "<a></a>", []string{"out[2]", "out[1]", "out[0]"}},
		{"<a><b></b><c></c><d></d></a>", "<a><x></x></a>", []string{"out[2]", "out[1]", "tag[0]x"}},
		{"<a></a>", "<a><b></b><c></c><d></d></a>", []string{"in[0]<b></b>", "in[1]<c></c>", "in[2]<d></d>"}},
		{"<a><b></b></a>", "<a><b></b><c></c><d><e></e></d></a>", []string{"in[1]<c></c>", "in[2]<d><e></e></d>"}},
		// Kids are held against each other by their places alone.
		{"<a><b></b><c></c></a>", "<a><c></c></a>", []string{"out[1]", "tag[0]c"}},
		{"<a><c></c></a>", "<a><b></b><c></c></a>", []string{"tag[0]b", "in[1]<c></c>"}},
		{"<a><b></b><c></c></a>", "<a><c></c><b></b></a>", []string{"tag[0]c", "tag[1]b"}},
		// A node, what it loses, then its kids; all that grows comes behind.
		{"<a><b><c></c><d></d></b><e></e><f></f></a>", "<x><y><z></z></y><w></w></x>", []string{"tag[]x", "out[2]", "tag[0]y", "out[0 1]", "tag[0 0]z", "tag[1]w"}},
		{"<a><b></b><c><d></d></c></a>", "<x><b><p></p></b><y></y><q></q></x>", []string{"tag[]x", "tag[1]y", "out[1 0]", "in[0 0]<p></p>", "in[2]<q></q>"}},
		{"<a><b></b><c></c></a>", "<a><b><p></p><q></q></b><c><r></r></c><s></s></a>", []string{"in[0 0]<p></p>", "in[0 1]<q></q>", "in[1 0]<r></r>", "in[2]<s></s>"}},
		{"<a><b><c><d></d></c></b></a>", "<a><b></b><x></x></a>", []string{"out[0 0]", "in[1]<x></x>"}},
		{"<a><b><c></c></b></a>", "<a><b><c><d></d></c><e></e></b><f></f></a>", []string{"in[0 0 0]<d></d>", "in[0 1]<e></e>", "in[1]<f></f>"}},
	} {
		l, ok := impl.Diffed(readTree(t, c.a), readTree(t, c.b))
		var got []string
		for _, e := range l {
			got = append(got, editText(e))
		}
		if !ok || !slices.Equal(got, c.want) {
			t.Errorf("from %s to %s: %q %v, want %q", c.a, c.b, got, ok, c.want)
		}
	}
}

// diffOf is the document's rule told of both texts alone: a pair is a path that
// leads somewhere in both.
func diffOf(a, b string) []impl.Edit {
	var l []impl.Edit
	inA, inB := spotsOf(a), spotsOf(b)
	for _, s := range inA {
		other, ok := spotAt(inB, s.path)
		if !ok {
			continue
		}
		if tag := tagAt(b[other.from:]); tag != tagAt(a[s.from:]) {
			l = append(l, edRename(tag, s.path...))
		}
		for kid := s.kids - 1; kid >= other.kids; kid-- {
			l = append(l, edDelete(append(slices.Clone(s.path), kid)...))
		}
	}
	for _, s := range inB {
		if _, ok := spotAt(inA, s.path); ok {
			continue
		}
		if _, ok := spotAt(inA, s.path[:len(s.path)-1]); ok {
			x, _ := impl.ReadTree(b[s.from:s.to])
			l = append(l, edInsert(x, s.path...))
		}
	}
	return l
}

// asksDiff is Promise 10, its last third, beside what the edits must be.
func asksDiff(t *testing.T, a, b impl.Tree) int {
	t.Helper()
	from, to := impl.TreeText(a), impl.TreeText(b)
	l, ok := impl.Diffed(a, b)
	if want := diffOf(from, to); !ok || !slices.EqualFunc(l, want, sameEdit) {
		t.Fatalf("from %s to %s: %v %v, want %v", from, to, l, ok, want)
	}
	if got, ok := impl.EditedAll(a, l); !ok || !sameTree(got, b) {
		t.Fatalf("from %s to %s one comes to %s", from, to, impl.TreeText(got))
	}
	return len(l)
}

func TestDifferencesLeadThere(t *testing.T) {
	few := smallTrees()[:66]
	for _, a := range few {
		for _, b := range few {
			if n := asksDiff(t, a, b); (n == 0) != sameTree(a, b) {
				t.Fatalf("%v and %v: %d edits", a, b, n)
			}
		}
	}
	for _, a := range someTrees() {
		if asksDiff(t, a, a) != 0 {
			t.Fatalf("%s differs from itself", impl.TreeText(a))
		}
	}
}

func TestDifferencesOfGreatTrees(t *testing.T) {
	most := 0
	for _, one := range shapes {
		for _, two := range shapes {
			for _, size := range []int{1, 2, 15, 29, 30} {
				most = max(most, asksDiff(t, one("a", 30), two("b", size)), asksDiff(t, one("a", size), two("b", 30)))
			}
		}
	}
	if most > 100 || most < 30 {
		t.Error(most)
	}
}

func TestRandomDifferences(t *testing.T) {
	r := rand.New(rand.NewSource(13))
	for range 3000 {
		a := randomTree(r, 1+r.Intn(30), []string{"a", "b"})
		b := randomTree(r, 1+r.Intn(30), []string{"a", "b"})
		asksDiff(t, a, b)
		c := a
		for range r.Intn(5) {
			if next, ok := impl.Edited(c, randomEdit(r, c)); ok {
				c = next
			}
		}
		asksDiff(t, a, c)
	}
}

func sparedEdit(e impl.Edit) impl.Edit {
	e.Path = withRoom(e.Path, 77)
	e.Tree = spared(e.Tree)
	return e
}

func shownEdits(l []impl.Edit) []any {
	var all []any
	for _, e := range l[:cap(l)] {
		all = append(all, e.Kind, len(e.Path), slices.Clone(e.Path[:cap(e.Path)]), e.Tag, whole(e.Tree))
	}
	return append(all, len(l))
}

// Promise 17, of all that is edited.
func TestEditsLeaveAllAsItWas(t *testing.T) {
	pair := node("a", leaf("b"), leaf("c"))
	trees := []impl.Tree{leaf("a"), node("a", leaf("b"), node("c", leaf("d"), leaf("e"))), node("a", pair, pair), chain("a", 30), star("b", 30), chain("a", 31), {}, leaf("A")}
	edits := []impl.Edit{
		edInsert(leaf("x"), 0), edInsert(node("x", pair, pair), 1), edInsert(leaf("x"), 1, 2), edDelete(0), edDelete(1), edDelete(1, 0), edRename("z"), edRename("z", 1),
		{}, edDelete(), edDelete(9), edInsert(leaf("X"), 0), edInsert(chain("b", 30), 0), {Kind: impl.EdDelete, Path: path(0), Tag: "b"},
	}
	for _, x := range trees {
		for _, y := range trees {
			a, b := spared(x), spared(y)
			wasA, wasB := whole(a), whole(b)
			one, ok := impl.Diffed(a, b)
			two, ok2 := impl.Diffed(a, b)
			if ok != ok2 || !reflect.DeepEqual(one, two) {
				t.Fatalf("%v and %v: not the same answers", x, y)
			}
			sharesNothing(t, []any{one, two}, []any{a, b})
			if !reflect.DeepEqual(whole(a), wasA) || !reflect.DeepEqual(whole(b), wasB) {
				t.Fatalf("%v and %v: written into", x, y)
			}
		}
		for _, e := range edits {
			for _, f := range append(edits, impl.Edit{Kind: -1}) {
				given := spared(x)
				list := withRoom([]impl.Edit{sparedEdit(e), sparedEdit(f)}, sparedEdit(edRename("spare", 77)))
				if f.Kind < 0 {
					list = list[:1]
				}
				was, listWas := whole(given), shownEdits(list)
				told := func() []any {
					after, edited := impl.Edited(given, list[0])
					back, undone := impl.Undone(given, list[0])
					all, done := impl.EditedAll(given, list)
					none, same := impl.EditedAll(given, list[:0])
					return []any{impl.EditOk(given, list[0]), after, edited, back, undone, all, done, none, same}
				}
				one, two := told(), told()
				if !reflect.DeepEqual(one, two) {
					t.Fatalf("%v %v %v: not the same answers", x, e, f)
				}
				sharesNothing(t, append(one, two...), []any{given, list})
				if !reflect.DeepEqual(whole(given), was) || !reflect.DeepEqual(shownEdits(list), listWas) {
					t.Fatalf("%v %v %v: written into", x, e, f)
				}
			}
		}
	}
}
