package tests

import (
	"fmt"
	"math"
	"math/rand"
	"reflect"
	"regexp"
	"slices"
	"strings"
	"testing"

	"loop.example/g00376/impl"
)

func deep(tag string) impl.Step { return impl.Step{Tag: tag, Deep: true} }

func next(tag string) impl.Step { return impl.Step{Tag: tag} }

func path(places ...int64) []int64 { return places }

func readTree(t *testing.T, s string) impl.Tree {
	t.Helper()
	x, ok := impl.ReadTree(s)
	if !ok {
		t.Fatal(s)
	}
	return x
}

// A spot is a node as its tree's text shows it: between which bytes it stands,
// and which tags lead to it, each behind a slash.
type spot struct {
	path     []int64
	tags     string
	from, to int
	kids     int64
}

// spotsOf reads the tags of a text one by one, without any tree.
func spotsOf(text string) []spot {
	var spots []spot
	var open []int
	for at := 0; at < len(text); {
		m := anyTag.FindStringSubmatch(text[at:])
		if m[1] == "" {
			one := spot{from: at, tags: "/" + m[2]}
			if len(open) > 0 {
				above := &spots[open[len(open)-1]]
				one.path = append(slices.Clone(above.path), above.kids)
				one.tags = above.tags + one.tags
				above.kids++
			}
			open = append(open, len(spots))
			spots = append(spots, one)
		} else {
			spots[open[len(open)-1]].to = at + len(m[0])
			open = open[:len(open)-1]
		}
		at += len(m[0])
	}
	return spots
}

// pattern is a selector told in another way: of the tags that lead to a node.
func pattern(l []impl.Step) *regexp.Regexp {
	p := "^"
	for _, s := range l {
		if s.Deep {
			p += "(/[a-z]+)*"
		}
		if s.Tag == "" {
			p += "/[a-z]+"
		} else {
			p += "/" + s.Tag
		}
	}
	return regexp.MustCompile(p + "$")
}

// selectors are all of so many steps.
func selectors(steps int, tags []string) [][]impl.Step {
	if steps == 0 {
		return [][]impl.Step{nil}
	}
	var all [][]impl.Step
	for _, ahead := range selectors(steps-1, tags) {
		for _, tag := range tags {
			all = append(all, append(slices.Clone(ahead), deep(tag)))
			if steps > 1 {
				all = append(all, append(slices.Clone(ahead), next(tag)))
			}
		}
	}
	return all
}

func samePaths(a, b [][]int64) bool { return slices.EqualFunc(a, b, slices.Equal) }

func sameSel(a, b []impl.Step) bool { return slices.Equal(a, b) }

// treesNotRight are such as no function may go down to the end of.
func treesNotRight() map[string]impl.Tree {
	self := make([]impl.Tree, 1)
	self[0] = impl.Tree{Tag: "a", Kids: self}
	shared := leaf("a")
	for range 100 {
		shared = node("a", shared, shared)
	}
	return map[string]impl.Tree{
		"no tag": {}, "a great letter": leaf("A"), "7 letters": leaf("abcdefg"), "any": leaf("*"),
		"a kid without a tag": node("a", leaf("b"), leaf("")), "a lower one": node("a", node("b", leaf("c"), leaf("c1"))),
		"31 in a row": chain("a", 31), "31 side by side": star("a", 31), "31 in a comb": comb("a", 31),
		"self": self[0], "shared": shared, "wide": star("a", 1<<16), "deep": chain("a", 1<<16),
	}
}

// pathsNowhere leave a tree at each of its nodes, on either side.
func pathsNowhere(x impl.Tree) [][]int64 {
	var all [][]int64
	for _, s := range spotsOf(impl.TreeText(x)) {
		for _, place := range []int64{s.kids, s.kids + 1, -1, -2, -s.kids, math.MaxInt64, math.MinInt64, math.MaxInt32 + 1, 1 << 32, 1<<32 + 1, -1 << 32} {
			if place >= 0 && place < s.kids || place == 0 && s.kids > 0 {
				continue
			}
			out := append(slices.Clone(s.path), place)
			all = append(all, out, append(slices.Clone(out), 0), append(slices.Clone(out), 0, 0))
		}
	}
	return append(all, make([]int64, 31), make([]int64, 1<<16))
}

var selsNotRight = [][]impl.Step{
	nil, {}, {next("a")}, {next("")}, {next("a"), deep("b")}, {next(""), next("")}, {{}},
	{deep("*")}, {deep("A")}, {deep("abcdefg")}, {deep("a "), deep("b")}, {deep("a"), deep(">")}, {deep("a"), next("a1")},
	{deep("a"), next("*")}, {deep("a"), deep("b"), deep("c"), deep("d"), deep("e"), deep("f")}, {deep(""), deep(""), deep(""), deep(""), deep(""), deep("")},
	{deep("a"), deep("a"), deep("a"), deep("a"), deep("A")}, {deep("a"), next("a"), next("a"), next("a"), next("a"), next("a")}, make([]impl.Step, 5),
}

func TestConstantsOfQueries(t *testing.T) {
	if impl.MaxSteps != 5 {
		t.Error(impl.MaxSteps)
	}
}

func TestStepsOfSelectors(t *testing.T) {
	for n := range 20 {
		l := slices.Repeat([]impl.Step{deep("a")}, n)
		if got, want := impl.SelOk(l), 1 <= n && n <= 5; got != want || (impl.SelText(l) != "") != want {
			t.Errorf("%d steps: %v %q", n, got, impl.SelText(l))
		}
		for i := range l {
			l[i].Deep = i == 0
		}
		if got, want := impl.SelOk(l), 1 <= n && n <= 5; got != want {
			t.Errorf("%d steps, the first one Deep: %v", n, got)
		}
		for i := range l {
			l[i].Deep = i != 0
		}
		if impl.SelOk(l) || impl.SelText(l) != "" {
			t.Errorf("%d steps, the first one not Deep", n)
		}
	}
	if impl.SelOk(slices.Repeat([]impl.Step{deep("a")}, 1<<20)) {
		t.Error("very many")
	}
}

func TestTagsOfSteps(t *testing.T) {
	for _, tag := range []string{"", "a", "z", "abcdef", "abcdefg", "A", "*", ">", " ", "a ", " a", "a1", "é", "\x00", "a>b", "**", strings.Repeat("a", 1<<20)} {
		want := tag == "" || impl.NameOk(tag)
		for n := 1; n <= 5; n++ {
			for at := range n {
				for _, isDeep := range []bool{true, false} {
					l := slices.Repeat([]impl.Step{deep("p")}, n)
					l[at] = impl.Step{Tag: tag, Deep: isDeep || at == 0}
					if got := impl.SelOk(l); got != want || (impl.SelText(l) == "") == want {
						t.Errorf("%q at %d of %d: %v %q", tag, at, n, got, impl.SelText(l))
					}
				}
			}
		}
	}
	for i, l := range selsNotRight {
		if impl.SelOk(l) || impl.SelText(l) != "" {
			t.Error(i, l, impl.SelText(l))
		}
	}
}

func TestSelTextsByHand(t *testing.T) {
	for want, l := range map[string][]impl.Step{
		"a":                  {deep("a")},
		"*":                  {deep("")},
		"abcdef":             {deep("abcdef")},
		"a b":                {deep("a"), deep("b")},
		"a > b":              {deep("a"), next("b")},
		"* > *":              {deep(""), next("")},
		"* *":                {deep(""), deep("")},
		"a > b c":            {deep("a"), next("b"), deep("c")},
		"a b > c":            {deep("a"), deep("b"), next("c")},
		"a > * > c":          {deep("a"), next(""), next("c")},
		"ul li > p * > em":   {deep("ul"), deep("li"), next("p"), deep(""), next("em")},
		"a > a > a > a > a":  {deep("a"), next("a"), next("a"), next("a"), next("a")},
		"a b c d e":          {deep("a"), deep("b"), deep("c"), deep("d"), deep("e")},
		"* > * > * > * > zz": {deep(""), next(""), next(""), next(""), next("zz")},
	} {
		if got := impl.SelText(l); got != want {
			t.Errorf("%q, want %q", got, want)
		}
		if got, ok := impl.ReadSel(want); !ok || !sameSel(got, l) {
			t.Errorf("%q: %v %v", want, got, ok)
		}
	}
}

// Promise 9, its first third.
func TestSelectorsComeBack(t *testing.T) {
	texts := map[string]bool{}
	asks := func(l []impl.Step) {
		s := impl.SelText(l)
		if got, ok := impl.ReadSel(s); !impl.SelOk(l) || !ok || !sameSel(got, l) {
			t.Fatalf("%v: %q: %v %v", l, s, got, ok)
		}
		if texts[s] {
			t.Fatalf("%q is the text of two", s)
		}
		texts[s] = true
	}
	for n := 1; n <= 5; n++ {
		for _, l := range selectors(n, []string{"", "a", "abcdef"}) {
			asks(l)
		}
	}
	longest := 0
	for s := range texts {
		longest = max(longest, len(s))
	}
	if longest != 42 || len(texts) != 3+18+108+648+3888 {
		t.Error(longest, len(texts))
	}
}

var selText = regexp.MustCompile(`^(?:\*|[a-z]{1,6})(?: (?:> )?(?:\*|[a-z]{1,6})){0,4}$`)

// asksSelText holds what ReadSel says of s against the pattern above.
func asksSelText(t *testing.T, s string) bool {
	t.Helper()
	want := selText.MatchString(s)
	l, ok := impl.ReadSel(s)
	if ok != want {
		t.Fatalf("ReadSel(%q): %v, want %v", s, ok, want)
	}
	if ok && (!impl.SelOk(l) || impl.SelText(l) != s) {
		t.Fatalf("ReadSel(%q): %v, with the text %q", s, l, impl.SelText(l))
	}
	if !ok && len(l) != 0 {
		t.Fatalf("ReadSel(%q) is false, with %v", s, l)
	}
	return ok
}

func TestTextsOfNoSelector(t *testing.T) {
	for _, s := range []string{
		"", " ", "  ", ">", "> ", "> a", ">a", " > a", "a >", "a > ", "a>", "a>b", "a >b", "a> b", "a  b", "a   b", " a", "a ", "\ta", "a\tb", "a\n", "a\nb",
		"a  > b", "a >  b", "a > > b", "a > >b", "a >> b", "a b >", "a > b >", "> a > b", "a < b", "a,b", "a + b", "a > b  c",
		"A", "a B", "a1", "*a", "a*", "**", "* *  *", "*>*", "*> *", "* >*", "abcdefg", "a abcdefg", "a > abcdefg", "é", "a\x00", ".a", "#a", "a b c d e f", "a > b > c > d > e > f",
		"* * * * * *", "a b c d e ", "a b c d e >", " a b c d e", "a b c d e  f",
	} {
		if asksSelText(t, s) {
			t.Errorf("%q is one", s)
		}
	}
	for n := 1; n <= 12; n++ {
		for _, s := range []string{strings.Repeat("a ", n-1) + "a", strings.Repeat("abcdef > ", n-1) + "abcdef", strings.Repeat("* > ", n-1) + "*"} {
			if asksSelText(t, s) != (n <= 5) {
				t.Errorf("%q", s)
			}
		}
	}
}

func TestSelTextsChangedAtOnePlace(t *testing.T) {
	bytes := []byte("> *aA0\x00\xff`{\n\t")
	for _, s := range []string{"a", "*", "abcdef", "a b", "a > b", "* > *", "a > b c", "ul li > p * > em", "abcdef > abcdef > abcdef > abcdef > abcdef", "a b c d e"} {
		for i := range len(s) + 1 {
			for _, c := range bytes {
				asksSelText(t, s[:i]+string([]byte{c})+s[i:])
				if i < len(s) {
					asksSelText(t, s[:i]+string([]byte{c})+s[i+1:])
				}
			}
			for j := i; j <= len(s); j++ {
				asksSelText(t, s[:i]+s[j:])
				asksSelText(t, s[:j]+s[i:])
			}
		}
	}
}

// Every text of up to 9 of these bytes.
func TestAllShortSelTexts(t *testing.T) {
	found := 0
	var grow func(s string, left int)
	grow = func(s string, left int) {
		if asksSelText(t, s) {
			found++
		}
		if left == 0 {
			return
		}
		for _, c := range "> *a" {
			grow(s+string(c), left-1)
		}
	}
	grow("", 9)
	if found < 100 {
		t.Error(found)
	}
}

func TestLongSelTexts(t *testing.T) {
	defer endsSoon("long texts")()
	for _, unit := range []string{"a", "a ", "* ", "> ", " ", ">", "*", "a > ", "abcdef ", "\x00"} {
		for _, n := range []int{41, 42, 43, 44, 1 << 20} {
			s := strings.Repeat(unit, n)
			asksSelText(t, s)
			asksSelText(t, s[:n])
			asksSelText(t, s+"a")
			asksSelText(t, "a "+s)
		}
	}
}

func TestPathsByHand(t *testing.T) {
	for text, want := range map[string][][]int64{
		"<a></a>":               {{}},
		"<a><b></b></a>":        {{}, {0}},
		"<a><b></b><c></c></a>": {{}, {0}, {1}},
		"<a><b><c></c></b></a>": {{}, {0}, {0, 0}},
		"<a><b><c></c><d></d></b><e><f></f></e></a>":        {{}, {0}, {0, 0}, {0, 1}, {1}, {1, 0}},
		"<a><b></b><c><d></d><e><f></f></e></c><g></g></a>": {{}, {0}, {1}, {1, 0}, {1, 1}, {1, 1, 0}, {2}},
	} {
		if got := impl.PathsOf(readTree(t, text)); !samePaths(got, want) {
			t.Errorf("%s: %v, want %v", text, got, want)
		}
	}
	if got := impl.PathsOf(chain("a", 30)); len(got) != 30 || !slices.Equal(got[29], make([]int64, 29)) {
		t.Error(got)
	}
	if got := impl.PathsOf(star("a", 30)); len(got) != 30 || !slices.Equal(got[29], path(28)) {
		t.Error(got)
	}
}

func TestAtByHand(t *testing.T) {
	x := readTree(t, "<a><b><c></c><d></d></b><e><f></f></e></a>")
	for _, c := range []struct {
		path []int64
		want string
	}{
		{nil, "<a><b><c></c><d></d></b><e><f></f></e></a>"}, {path(), "<a><b><c></c><d></d></b><e><f></f></e></a>"},
		{path(0), "<b><c></c><d></d></b>"}, {path(1), "<e><f></f></e>"}, {path(0, 0), "<c></c>"}, {path(0, 1), "<d></d>"}, {path(1, 0), "<f></f>"},
		{path(2), ""}, {path(-1), ""}, {path(0, 2), ""}, {path(1, 1), ""}, {path(0, -1), ""}, {path(0, 0, 0), ""}, {path(-1, 0), ""}, {path(2, 0), ""}, {path(1, 0, 0), ""},
		{path(math.MaxInt64), ""}, {path(math.MinInt64), ""}, {path(1 << 32), ""}, {path(0, 1<<32), ""},
	} {
		got, ok := impl.At(x, c.path)
		if ok != (c.want != "") || impl.TreeText(got) != c.want || !ok && (got.Tag != "" || len(got.Kids) != 0) {
			t.Errorf("%v: %v %v", c.path, impl.TreeText(got), ok)
		}
	}
}

func TestPathsLeadToAll(t *testing.T) {
	for _, x := range someTrees() {
		text := impl.TreeText(x)
		var paths [][]int64
		for _, s := range spotsOf(text) {
			paths = append(paths, s.path)
			if got, ok := impl.At(x, s.path); !ok || impl.TreeText(got) != text[s.from:s.to] {
				t.Fatalf("%s at %v: %s %v", text, s.path, impl.TreeText(got), ok)
			}
		}
		if got := impl.PathsOf(x); !samePaths(got, paths) || int64(len(got)) != impl.SizeOf(x) {
			t.Fatalf("%s: %v, want %v", text, got, paths)
		}
	}
}

func TestPathsThatLeadNowhere(t *testing.T) {
	any := []impl.Step{deep("")}
	for _, x := range someTrees() {
		for _, p := range pathsNowhere(x) {
			got, ok := impl.At(x, p)
			if ok || got.Tag != "" || len(got.Kids) != 0 {
				t.Fatalf("%s at %v: %v", impl.TreeText(x), p, got)
			}
			if impl.Matches(x, p, any) {
				t.Fatalf("%s: %v matches", impl.TreeText(x), p)
			}
			if up, ok := impl.Closest(x, p, x.Tag); ok || len(up) != 0 {
				t.Fatalf("%s: closest to %v: %v", impl.TreeText(x), p, up)
			}
		}
	}
}

func TestQueriesOfTreesNotRight(t *testing.T) {
	defer endsSoon("trees not right")()
	any := []impl.Step{deep("")}
	for what, x := range treesNotRight() {
		if l := impl.PathsOf(x); len(l) != 0 {
			t.Error(what, "has paths")
		}
		if l := impl.FindAll(x, any); len(l) != 0 {
			t.Error(what, "finds", l)
		}
		for _, p := range [][]int64{nil, {}, {0}, {0, 0}, {0, 0, 0, 0}, {1}, {-1}, make([]int64, 1<<16)} {
			at, ok := impl.At(x, p)
			up, found := impl.Closest(x, p, x.Tag)
			if ok || at.Tag != "" || len(at.Kids) != 0 || found || len(up) != 0 || impl.Matches(x, p, any) {
				t.Error(what, p)
			}
		}
	}
}

func TestQueriesOfSelectorsNotRight(t *testing.T) {
	for i, l := range selsNotRight {
		for _, x := range []impl.Tree{leaf("a"), node("a", leaf("a"), leaf("b")), chain("a", 30), node("a", node("b", node("c", node("d", node("e", leaf("f"))))))} {
			if got := impl.FindAll(x, l); len(got) != 0 {
				t.Error(i, impl.TreeText(x), got)
			}
			for _, p := range impl.PathsOf(x) {
				if impl.Matches(x, p, l) {
					t.Error(i, impl.TreeText(x), p)
				}
			}
		}
	}
}

func TestMatchesByHand(t *testing.T) {
	for _, c := range []struct{ tree, sel, want string }{
		{"<a></a>", "a", "[[]]"},
		{"<a></a>", "b", "[]"},
		{"<a></a>", "*", "[[]]"},
		{"<a></a>", "a a", "[]"},
		{"<a></a>", "* *", "[]"},
		{"<a></a>", "* > *", "[]"},
		{"<a></a>", "a > a", "[]"},
		{"<a><a></a></a>", "a a", "[[0]]"},
		{"<a><a></a></a>", "a > a", "[[0]]"},
		{"<a><a></a></a>", "a", "[[] [0]]"},
		// The root is above all others, however far.
		{"<a><b><c><d></d></c></b></a>", "a d", "[[0 0 0]]"},
		{"<a><b><c><d></d></c></b></a>", "a > d", "[]"},
		{"<a><b><c><d></d></c></b></a>", "a b d", "[[0 0 0]]"},
		{"<a><b><c><d></d></c></b></a>", "b a", "[]"},
		{"<a><b><c><d></d></c></b></a>", "d a", "[]"},
		{"<a><b><c><d></d></c></b></a>", "* d", "[[0 0 0]]"},
		{"<a><b><c><d></d></c></b></a>", "a *", "[[0] [0 0] [0 0 0]]"},
		{"<a><b><c><d></d></c></b></a>", "a > *", "[[0]]"},
		{"<a><b><c><d></d></c></b></a>", "* * * *", "[[0 0 0]]"},
		{"<a><b><c><d></d></c></b></a>", "* * * * *", "[]"},
		// A step that is not Deep behind one that is.
		{"<a><x><b><c></c></b></x></a>", "a b > c", "[[0 0 0]]"},
		{"<a><x><b><y><c></c></y></b></x></a>", "a b > c", "[]"},
		{"<a><b><b><c></c></b></b></a>", "a > b > c", "[]"},
		{"<a><b><b><c></c></b></b></a>", "a b > c", "[[0 0 0]]"},
		{"<b><a><c></c></a></b>", "a b > c", "[]"},
		{"<b><a><c></c></a></b>", "b > c", "[]"},
		{"<b><a><c></c></a></b>", "b * > c", "[[0 0]]"},
		{"<b><c></c></b>", "b * > c", "[]"},
		// Of two with the tag but the upper one stands where it must.
		{"<a><b><x><b><c></c></b></x></b></a>", "a > b c", "[[0 0 0 0]]"},
		{"<a><b><x><b><c></c></b></x></b></a>", "a > b > c", "[]"},
		{"<a><b><x><b><c></c></b></x></b></a>", "x > b c", "[[0 0 0 0]]"},
		{"<a><b><x><b><c></c></b></x></b></a>", "a > b b", "[[0 0 0]]"},
		{"<a><b><x><b><c></c></b></x></b></a>", "a > b > b", "[]"},
		{"<a><b><a><b><a></a></b></a></b></a>", "a > b > a > b > a", "[[0 0 0 0]]"},
		{"<a><b><a><b><a></a></b></a></b></a>", "a b a", "[[0 0] [0 0 0 0]]"},
		{"<p><a><b></b></a><a></a><b></b></p>", "p > a > b", "[[0 0]]"},
		{"<p><a><b></b></a><a></a><b></b></p>", "p b", "[[0 0] [2]]"},
		{"<p><a><b></b></a><a></a><b></b></p>", "a b", "[[0 0]]"},
		{"<ab><a></a></ab>", "a a", "[]"},
		{"<a><ab></ab></a>", "a > a", "[]"},
	} {
		x := readTree(t, c.tree)
		l, ok := impl.ReadSel(c.sel)
		if got := fmt.Sprint(impl.FindAll(x, l)); !ok || got != c.want {
			t.Errorf("%q in %s: %v, want %v", c.sel, c.tree, got, c.want)
		}
	}
}

// asksFound holds what is found in x by l against the selector's pattern.
func asksFound(t *testing.T, x impl.Tree, spots []spot, l []impl.Step, p *regexp.Regexp) int {
	t.Helper()
	var want [][]int64
	for _, s := range spots {
		matches := p.MatchString(s.tags)
		if matches {
			want = append(want, s.path)
		}
		if impl.Matches(x, s.path, l) != matches {
			t.Fatalf("%q at %v of %s: not %v", impl.SelText(l), s.path, impl.TreeText(x), matches)
		}
	}
	if got := impl.FindAll(x, l); !samePaths(got, want) {
		t.Fatalf("%q in %s: %v, want %v", impl.SelText(l), impl.TreeText(x), got, want)
	}
	return len(want)
}

// Promise 9, its second third: few steps in few nodes, and many steps in rows.
func TestWhatIsFoundMatches(t *testing.T) {
	var trees []impl.Tree
	for _, x := range smallTrees() {
		if impl.SizeOf(x) < 4 || x.Tag == "a" {
			trees = append(trees, x)
		}
	}
	found := 0
	for n := 1; n <= 3; n++ {
		for _, l := range selectors(n, []string{"", "a", "b"}) {
			p := pattern(l)
			for _, x := range trees {
				found += asksFound(t, x, spotsOf(impl.TreeText(x)), l, p)
			}
		}
	}
	if found == 0 {
		t.Error("none")
	}
}

// rows are all trees of so many nodes, each the only kid of the one above it.
func rows(size int, tags []string) []impl.Tree {
	var all []impl.Tree
	for _, tag := range tags {
		if size == 1 {
			all = append(all, leaf(tag))
			continue
		}
		for _, kid := range rows(size-1, tags) {
			all = append(all, node(tag, kid))
		}
	}
	return all
}

func TestManyStepsInRows(t *testing.T) {
	trees := rows(7, []string{"a", "b"})
	var spots [][]spot
	for _, x := range trees {
		spots = append(spots, spotsOf(impl.TreeText(x)))
	}
	for n := 4; n <= 5; n++ {
		for i, l := range selectors(n, []string{"", "a", "b"}) {
			if n == 5 && i%7 != 0 {
				continue
			}
			p := pattern(l)
			for j, x := range trees {
				if (i+j)%9 == 0 {
					asksFound(t, x, spots[j], l, p)
				}
			}
		}
	}
}

// randomTree has so many nodes, each of them a kid of any one ahead of it.
func randomTree(r *rand.Rand, size int, tags []string) impl.Tree {
	x := leaf(tags[r.Intn(len(tags))])
	for range size - 1 {
		at := &x
		for len(at.Kids) > 0 && r.Intn(4) > 0 {
			at = &at.Kids[r.Intn(len(at.Kids))]
		}
		at.Kids = slices.Insert(at.Kids, r.Intn(len(at.Kids)+1), leaf(tags[r.Intn(len(tags))]))
	}
	return x
}

func randomSel(r *rand.Rand, tags []string) []impl.Step {
	l := []impl.Step{deep(tags[r.Intn(len(tags))])}
	for range r.Intn(5) {
		l = append(l, impl.Step{Tag: tags[r.Intn(len(tags))], Deep: r.Intn(2) == 0})
	}
	return l
}

func TestRandomQueries(t *testing.T) {
	r := rand.New(rand.NewSource(9))
	found := map[int]int{}
	for range 3000 {
		x := randomTree(r, 1+r.Intn(30), []string{"a", "b", "c", "ab"})
		spots := spotsOf(impl.TreeText(x))
		for range 5 {
			l := randomSel(r, []string{"", "a", "b", "c", "ab"})
			found[len(l)] += asksFound(t, x, spots, l, pattern(l))
		}
	}
	for n := 1; n <= 5; n++ {
		if found[n] == 0 {
			t.Error("nothing found by", n)
		}
	}
}

// All Deep steps but the first fit everywhere, which leaves the most to try.
func TestMatchingEnds(t *testing.T) {
	defer endsSoon("matching")()
	x := chain("a", 30)
	for _, s := range []string{"b * * * *", "b a a a a", "b > a a a a", "b a > a a a", "b a a a > a"} {
		l, _ := impl.ReadSel(s)
		if got := impl.FindAll(x, l); len(got) != 0 {
			t.Error(s, got)
		}
	}
	l, _ := impl.ReadSel("a * * * *")
	if got := impl.FindAll(x, l); len(got) != 26 {
		t.Error(len(got))
	}
}

func TestClosestByHand(t *testing.T) {
	x := readTree(t, "<a><b><a><c></c></a></b><c></c></a>")
	for _, c := range []struct {
		path []int64
		tag  string
		want []int64
		ok   bool
	}{
		{nil, "a", nil, true}, {nil, "b", nil, false}, {nil, "c", nil, false},
		{path(0), "b", path(0), true}, {path(0), "a", nil, true}, {path(0), "c", nil, false},
		{path(0, 0), "a", path(0, 0), true}, {path(0, 0), "b", path(0), true}, {path(0, 0), "c", nil, false},
		{path(0, 0, 0), "c", path(0, 0, 0), true}, {path(0, 0, 0), "a", path(0, 0), true}, {path(0, 0, 0), "b", path(0), true},
		{path(1), "c", path(1), true}, {path(1), "a", nil, true}, {path(1), "b", nil, false},
		{path(0, 0, 0), "", nil, false}, {path(0, 0, 0), "*", nil, false}, {path(0, 0, 0), "A", nil, false}, {path(0, 0, 0), "d", nil, false}, {path(0, 0, 0), "abcdefg", nil, false},
		{path(2), "a", nil, false}, {path(-1), "a", nil, false}, {path(1, 0), "c", nil, false}, {path(1, 0), "a", nil, false}, {path(0, 0, 0, 0), "c", nil, false}, {path(0, 1), "b", nil, false},
	} {
		if got, ok := impl.Closest(x, c.path, c.tag); ok != c.ok || !slices.Equal(got, c.want) {
			t.Errorf("%v %q: %v %v, want %v %v", c.path, c.tag, got, ok, c.want, c.ok)
		}
	}
}

// Promise 9, its last third.
func TestTheClosestOne(t *testing.T) {
	r := rand.New(rand.NewSource(99))
	trees := someTrees()
	for range 500 {
		trees = append(trees, randomTree(r, 1+r.Intn(30), []string{"a", "b", "c", "ab"}))
	}
	for _, x := range trees {
		for _, s := range spotsOf(impl.TreeText(x)) {
			tags := strings.Split(s.tags, "/")[1:]
			for _, tag := range []string{"a", "b", "c", "ab", "z", "", "abcdef"} {
				want := -1
				for i, one := range tags {
					if one == tag {
						want = i
					}
				}
				got, ok := impl.Closest(x, s.path, tag)
				if ok != (want >= 0) || ok && !slices.Equal(got, s.path[:want]) || !ok && len(got) != 0 {
					t.Fatalf("%s %v %q: %v %v, want the first %d", impl.TreeText(x), s.path, tag, got, ok, want)
				}
			}
		}
	}
}

// A list of kids that stands at two places is two lists, in what is told, too.
func TestListsAtTwoPlaces(t *testing.T) {
	pair := node("b", leaf("c"))
	for range 3 {
		pair = node("a", pair, pair)
	}
	got, ok := impl.At(pair, nil)
	if !ok || !sameTree(got, pair) {
		t.Error(got)
	}
	sharesNothing(t, []any{got}, []any{pair})
}

// Promise 17, of all that is asked of trees and selectors.
func TestQueriesLeaveAllAsItWas(t *testing.T) {
	trees := []impl.Tree{leaf("a"), node("a", leaf("b"), node("a", leaf("c"))), chain("a", 30), star("b", 30), comb("ab", 30), chain("a", 31), {}, leaf("A")}
	sels := [][]impl.Step{{deep("a")}, {deep("")}, {deep("a"), next("b")}, {deep(""), deep("a"), next("")}, {next("a")}, nil}
	paths := [][]int64{nil, {0}, {1}, {1, 0}, {0, 0, 0}, {-1}, {5}}
	for _, x := range trees {
		for _, l := range sels {
			for _, p := range paths {
				given, steps, places := spared(x), withRoom(l, deep("spare")), withRoom(p, 77)
				was, stepsWere, placesWere := whole(given), slices.Clone(steps[:cap(steps)]), slices.Clone(places[:cap(places)])
				told := func() []any {
					at, ok := impl.At(given, places)
					up, found := impl.Closest(given, places, "a")
					return []any{impl.SelOk(steps), impl.SelText(steps), impl.PathsOf(given), at, ok, impl.Matches(given, places, steps), impl.FindAll(given, steps), up, found}
				}
				one, two := told(), told()
				if !reflect.DeepEqual(one, two) {
					t.Fatalf("%v %v %v: not the same answers", x, l, p)
				}
				sharesNothing(t, append(one, two...), []any{given, steps, places})
				if !reflect.DeepEqual(whole(given), was) || !slices.Equal(steps[:cap(steps)], stepsWere) || !slices.Equal(places[:cap(places)], placesWere) {
					t.Fatalf("%v %v %v: written into", x, l, p)
				}
				s := impl.SelText(l)
				got, ok := impl.ReadSel(s)
				again, ok2 := impl.ReadSel(s)
				if ok != ok2 || !sameSel(got, again) {
					t.Fatalf("%q: not the same answers", s)
				}
				sharesNothing(t, []any{got, again}, []any{steps})
			}
		}
	}
}
