package tests

import (
	"reflect"
	"regexp"
	"strings"
	"testing"

	"loop.example/g00376/impl"
)

func leaf(tag string) impl.Tree { return impl.Tree{Tag: tag} }

func node(tag string, kids ...impl.Tree) impl.Tree { return impl.Tree{Tag: tag, Kids: kids} }

// chain has each node as the only kid of the one above it.
func chain(tag string, size int) impl.Tree {
	t := leaf(tag)
	for range size - 1 {
		t = node(tag, t)
	}
	return t
}

// star has all nodes but one as kids of that one.
func star(tag string, size int) impl.Tree {
	t := leaf(tag)
	for range size - 1 {
		t.Kids = append(t.Kids, leaf(tag))
	}
	return t
}

// comb has two kids a level: a leaf and the rest.
func comb(tag string, size int) impl.Tree {
	if size < 3 {
		return chain(tag, size)
	}
	return node(tag, leaf(tag), comb(tag, size-2))
}

var shapes = map[string]func(string, int) impl.Tree{"chain": chain, "star": star, "comb": comb}

// forests are all lists of trees with so many nodes in all and with these tags.
func forests(size int, tags []string) [][]impl.Tree {
	if size == 0 {
		return [][]impl.Tree{nil}
	}
	var all [][]impl.Tree
	for first := 1; first <= size; first++ {
		for _, kids := range forests(first-1, tags) {
			for _, rest := range forests(size-first, tags) {
				for _, tag := range tags {
					all = append(all, append([]impl.Tree{node(tag, kids...)}, rest...))
				}
			}
		}
	}
	return all
}

func smallTrees() []impl.Tree {
	tags := []string{"a", "b", "ab"}
	var all []impl.Tree
	for size := 1; size <= 4; size++ {
		for _, kids := range forests(size-1, tags) {
			for _, tag := range tags {
				all = append(all, node(tag, kids...))
			}
		}
	}
	return all
}

func someTrees() []impl.Tree {
	all := smallTrees()
	for _, shape := range shapes {
		for _, tag := range []string{"a", "z", "abcdef"} {
			for _, size := range []int{1, 2, 7, 29, 30} {
				all = append(all, shape(tag, size))
			}
		}
	}
	return all
}

func sameTree(a, b impl.Tree) bool {
	if a.Tag != b.Tag || len(a.Kids) != len(b.Kids) {
		return false
	}
	for i := range a.Kids {
		if !sameTree(a.Kids[i], b.Kids[i]) {
			return false
		}
	}
	return true
}

var anyTag = regexp.MustCompile(`^<(/?)([a-z]{1,6})>`)

// isTreeText is the document's rule told in another way: tags that open are
// piled up, tags that close take the last one off.
func isTreeText(s string) bool {
	var open []string
	nodes := 0
	for {
		m := anyTag.FindStringSubmatch(s)
		if m == nil {
			return false
		}
		s = s[len(m[0]):]
		if m[1] == "" {
			open = append(open, m[2])
			nodes++
		} else if len(open) == 0 || open[len(open)-1] != m[2] {
			return false
		} else {
			open = open[:len(open)-1]
		}
		if len(open) == 0 {
			return s == "" && nodes <= 30
		}
	}
}

// asksOf holds what ReadTree says of s against the rule above.
func asksOf(t *testing.T, s string) {
	t.Helper()
	want := isTreeText(s)
	got, ok := impl.ReadTree(s)
	if ok != want {
		t.Fatalf("ReadTree(%q): %v, want %v", s, ok, want)
	}
	if ok && impl.TreeText(got) != s {
		t.Fatalf("ReadTree(%q) has the text %q", s, impl.TreeText(got))
	}
	if !ok && (got.Tag != "" || len(got.Kids) != 0) {
		t.Fatalf("ReadTree(%q) is false, with %v", s, got)
	}
}

func TestConstantsOfNames(t *testing.T) {
	if impl.MaxName != 6 || impl.MaxTree != 30 {
		t.Error(impl.MaxName, impl.MaxTree)
	}
}

func TestNameLengths(t *testing.T) {
	for n := 0; n <= 20; n++ {
		if got, want := impl.NameOk(strings.Repeat("k", n)), 1 <= n && n <= 6; got != want {
			t.Errorf("%d letters: %v", n, got)
		}
	}
	if impl.NameOk(strings.Repeat("k", 1<<20)) {
		t.Error("a very long one")
	}
}

func TestNameBytes(t *testing.T) {
	for n := 1; n <= 6; n++ {
		for at := range n {
			for c := range 256 {
				s := []byte("mnopqr")[:n]
				s[at] = byte(c)
				if got, want := impl.NameOk(string(s)), 97 <= c && c <= 122; got != want {
					t.Errorf("%q: %v", s, got)
				}
			}
		}
	}
	for _, s := range []string{"é", "aé", "ａ", "a b", " a", "a\n", "\x00"} {
		if impl.NameOk(s) {
			t.Errorf("%q", s)
		}
	}
}

func TestSizes(t *testing.T) {
	for name, shape := range shapes {
		for size := 1; size <= 40; size++ {
			x := shape("abcdef", size)
			want := int64(size)
			if size > 30 {
				want = -1
			}
			if impl.SizeOf(x) != want || impl.TreeOk(x) != (size <= 30) || (impl.TreeText(x) == "") != (size > 30) {
				t.Errorf("%s of %d: %d %v %q", name, size, impl.SizeOf(x), impl.TreeOk(x), impl.TreeText(x))
			}
		}
	}
	for size := 1; size <= 4; size++ {
		for _, kids := range forests(size-1, []string{"a", "bc"}) {
			if x := node("a", kids...); impl.SizeOf(x) != int64(size) || !impl.TreeOk(x) {
				t.Errorf("%v: %d", x, impl.SizeOf(x))
			}
		}
	}
}

func TestTagsOfTrees(t *testing.T) {
	for _, tag := range []string{"", "abcdefg", "A", "a1", "a-", "a ", "<", "é", "a>"} {
		for _, x := range []impl.Tree{
			leaf(tag), node(tag, leaf("a")), node("a", leaf(tag)), node("a", leaf("b"), leaf(tag)), node("a", leaf(tag), leaf("b")),
			node("a", node("b", leaf("c"), leaf(tag)), leaf("d")),
		} {
			if impl.TreeOk(x) || impl.SizeOf(x) != -1 || impl.TreeText(x) != "" {
				t.Errorf("%q: %v %d %q", tag, impl.TreeOk(x), impl.SizeOf(x), impl.TreeText(x))
			}
		}
	}
}

// A list of kids can hold itself, or one list can stand in many places; then
// there are more nodes than can be counted.
func TestTreesWithoutEnd(t *testing.T) {
	self := make([]impl.Tree, 1)
	self[0] = node("a", self...)
	self[0].Kids = self
	twice := make([]impl.Tree, 2)
	twice[0], twice[1] = impl.Tree{Tag: "a", Kids: twice}, impl.Tree{Tag: "b", Kids: twice}
	shared := leaf("a")
	for range 100 {
		shared = node("a", shared, shared)
	}
	for name, x := range map[string]impl.Tree{
		"self": self[0], "twice": twice[0], "shared": shared, "wide": star("a", 1<<20), "deep": chain("a", 1<<20),
	} {
		if impl.TreeOk(x) || impl.SizeOf(x) != -1 || impl.TreeText(x) != "" {
			t.Error(name)
		}
	}
	pair := leaf("b")
	for range 3 {
		pair = node("a", pair, pair)
	}
	if impl.SizeOf(pair) != 15 || impl.SizeOf(node("p", pair, leaf("q"))) != 17 {
		t.Error("a list that stands in two places is two lists")
	}
}

func TestTreeTexts(t *testing.T) {
	for want, x := range map[string]impl.Tree{
		"<a></a>":                            leaf("a"),
		"<abcdef></abcdef>":                  leaf("abcdef"),
		"<a><b></b></a>":                     node("a", leaf("b")),
		"<a><b></b><c></c></a>":              node("a", leaf("b"), leaf("c")),
		"<a><c></c><b></b></a>":              node("a", leaf("c"), leaf("b")),
		"<a><b><c></c></b><d></d></a>":       node("a", node("b", leaf("c")), leaf("d")),
		"<ul><li><p></p></li><li></li></ul>": node("ul", node("li", leaf("p")), leaf("li")),
	} {
		if got := impl.TreeText(x); got != want {
			t.Errorf("%q, want %q", got, want)
		}
		if got, ok := impl.ReadTree(want); !ok || !sameTree(got, x) {
			t.Errorf("%q: %v %v", want, got, ok)
		}
	}
}

// Promise 1, its first half.
func TestTreesComeBack(t *testing.T) {
	texts := map[string]bool{}
	for _, x := range someTrees() {
		s := impl.TreeText(x)
		got, ok := impl.ReadTree(s)
		if !ok || !sameTree(got, x) {
			t.Fatalf("%v: %q: %v %v", x, s, got, ok)
		}
		texts[s] = true
	}
	for _, x := range smallTrees() {
		delete(texts, impl.TreeText(x))
	}
	if len(texts) == 0 {
		t.Error("no tree but small ones")
	}
}

// Promise 1, its second half.
func TestOneMoreKid(t *testing.T) {
	kids := []impl.Tree{leaf("a"), leaf("z"), node("b", leaf("c")), star("abcdef", 4), chain("p", 29)}
	seen := 0
	for _, x := range someTrees() {
		for _, kid := range kids {
			more := impl.Tree{Tag: x.Tag, Kids: append(append([]impl.Tree(nil), x.Kids...), kid)}
			got := impl.TreeText(more)
			if impl.SizeOf(x)+impl.SizeOf(kid) > 30 {
				if got != "" || impl.TreeOk(more) {
					t.Fatalf("%v and %v: %q", x, kid, got)
				}
				continue
			}
			end := "</" + x.Tag + ">"
			if want := strings.TrimSuffix(impl.TreeText(x), end) + impl.TreeText(kid) + end; got != want {
				t.Fatalf("%q, want %q", got, want)
			}
			if impl.SizeOf(more) != impl.SizeOf(x)+impl.SizeOf(kid) {
				t.Fatalf("%v: %d", more, impl.SizeOf(more))
			}
			seen++
		}
	}
	if seen == 0 {
		t.Error("none")
	}
}

func TestTextsThatAreNone(t *testing.T) {
	for _, s := range []string{
		"", " ", "<", ">", "a", "<a", "<a>", "</a>", "<a></a", "<a/>", "<></>", "<a></>", "<></a>",
		"<a></b>", "<a></ab>", "<ab></a>", "<a><b></a></b>", "<a><b></b>", "<a></b></a>", "<a><b></a>",
		"<a></a></a>", "<a></a><a></a>", "<a></a> ", " <a></a>", "<a></a>\n", "<a></a>x", "<a></a><", "<a>x</a>", "<a> </a>",
		"<a ></a>", "< a></a>", "<a></a >", "<a></ a>", "<a>< /a>", "<<a></a>", "<a>></a>", "<a><</a>", "<a><//a>",
		"<A></A>", "<a></A>", "<A></a>", "<a1></a1>", "<é></é>", "<abcdefg></abcdefg>", "<abcdef></abcdefg>", "<abcdefg></abcdef>",
		"<a\x00></a\x00>", "<a></a>\x00", "<!a></a>", "<a b></a>", "<a><></></a>", "<a></a><b></b>",
	} {
		if isTreeText(s) {
			t.Fatalf("%q is one", s)
		}
		asksOf(t, s)
	}
}

func TestTextsCutShort(t *testing.T) {
	for _, x := range someTrees() {
		s := impl.TreeText(x)
		for n := range len(s) {
			if got, ok := impl.ReadTree(s[:n]); ok || got.Tag != "" || len(got.Kids) != 0 {
				t.Fatalf("%q: %v", s[:n], got)
			}
			if n > 0 {
				if _, ok := impl.ReadTree(s[n:]); ok {
					t.Fatalf("%q", s[n:])
				}
			}
		}
	}
}

func TestBytesBehindTheEnd(t *testing.T) {
	for _, x := range []impl.Tree{leaf("a"), node("div", leaf("p"), leaf("li")), star("abcdef", 30), chain("a", 30)} {
		s := impl.TreeText(x)
		for c := range 256 {
			if _, ok := impl.ReadTree(s + string([]byte{byte(c)})); ok {
				t.Errorf("%q and %d", s, c)
			}
			if _, ok := impl.ReadTree(string([]byte{byte(c)}) + s); ok {
				t.Errorf("%d and %q", c, s)
			}
		}
		asksOf(t, s+s)
		asksOf(t, s+"</"+x.Tag+">")
	}
}

func TestTextsChangedAtOnePlace(t *testing.T) {
	bytes := []byte("<>/ab A0\x00\xff`{")
	for _, x := range []impl.Tree{
		leaf("a"), leaf("abcdef"), node("a", leaf("b")), node("ab", leaf("a"), leaf("b")), node("a", node("ab", leaf("b")), leaf("a")), node("b", star("a", 3), chain("ab", 3)),
	} {
		s := impl.TreeText(x)
		for i := range len(s) + 1 {
			for _, c := range bytes {
				asksOf(t, s[:i]+string([]byte{c})+s[i:])
				if i < len(s) {
					asksOf(t, s[:i]+string([]byte{c})+s[i+1:])
				}
			}
			for j := i; j <= len(s); j++ {
				asksOf(t, s[:i]+s[j:])
				asksOf(t, s[:j]+s[i:])
			}
		}
	}
}

// Each closing tag in turn is put as another one.
func TestTagsThatDoNotMatch(t *testing.T) {
	closing := regexp.MustCompile(`</[a-z]+>`)
	for _, x := range []impl.Tree{leaf("a"), node("a", leaf("b"), node("c", leaf("d"))), star("abcdef", 30), chain("li", 30), comb("p", 30)} {
		s := impl.TreeText(x)
		for _, at := range closing.FindAllStringIndex(s, -1) {
			was := s[at[0]:at[1]]
			for _, tag := range []string{"x", "A", "", was[2:len(was)-1] + "x", was[2 : len(was)-2], strings.ToUpper(was[2 : len(was)-1])} {
				if bad := s[:at[0]] + "</" + tag + ">" + s[at[1]:]; isTreeText(bad) {
					t.Fatalf("%q is one", bad)
				} else if _, ok := impl.ReadTree(bad); ok {
					t.Errorf("%q", bad)
				}
			}
		}
	}
}

// Every text of up to 9 of these bytes.
func TestAllShortTexts(t *testing.T) {
	found := 0
	var grow func(s string, left int)
	grow = func(s string, left int) {
		asksOf(t, s)
		if isTreeText(s) {
			found++
		}
		if left == 0 {
			return
		}
		for _, c := range "<>/a" {
			grow(s+string(c), left-1)
		}
	}
	grow("", 9)
	if found != 2 {
		t.Errorf("%d texts, not <a></a> and <aa></aa> alone", found)
	}
}

func TestNodesInTexts(t *testing.T) {
	for size := 28; size <= 40; size++ {
		for _, s := range []string{
			strings.Repeat("<a>", size) + strings.Repeat("</a>", size),
			"<b>" + strings.Repeat("<abcdef></abcdef>", size-1) + "</b>",
			"<b>" + strings.Repeat("<a>", size-2) + strings.Repeat("</a>", size-2) + "<c></c></b>",
		} {
			got, ok := impl.ReadTree(s)
			if ok != (size <= 30) {
				t.Errorf("%d nodes: %v", size, ok)
			}
			if ok && (impl.SizeOf(got) != int64(size) || impl.TreeText(got) != s) {
				t.Errorf("%d nodes: %v", size, got)
			}
			asksOf(t, s)
		}
	}
}

// wideText is a text of n bytes whose tags all match: a node of k letters takes
// 5 + 2k bytes, so that there must be an odd number of them just where n is odd.
func wideText(t *testing.T, n int) string {
	nodes := n / 15
	if (n-nodes)%2 != 0 {
		nodes++
	}
	letters := (n - 5*nodes) / 2
	var root, kids string
	for i := range nodes {
		tag := "abcdef"[:(letters+nodes-1-i)/nodes]
		if i == 0 {
			root = tag
		} else {
			kids += "<" + tag + "></" + tag + ">"
		}
	}
	text := "<" + root + ">" + kids + "</" + root + ">"
	if len(text) != n {
		t.Fatalf("a text of %d bytes, not of %d", len(text), n)
	}
	return text
}

// A right tree's text has 510 bytes at the most, so 1000 are never those of
// one; what matters is that texts at and above the limit are answered at all.
func TestLengthsOfTexts(t *testing.T) {
	longest := impl.TreeText(star("abcdef", 30))
	if len(longest) != 510 {
		t.Error(len(longest))
	}
	asksOf(t, longest)
	for _, n := range []int{999, 1000, 1001} {
		asksOf(t, wideText(t, n))
		asksOf(t, longest+strings.Repeat("x", n-len(longest)))
		asksOf(t, strings.Repeat(" ", n-len(longest))+longest)
		asksOf(t, strings.Repeat("a", n))
		asksOf(t, "<"+strings.Repeat("a", n-2)+">")
		asksOf(t, strings.Repeat("<a>", n)[:n])
	}
	for _, s := range []string{strings.Repeat("<a>", 1<<22), strings.Repeat("<a></a>", 1<<20), strings.Repeat("<a>", 1<<20) + strings.Repeat("</a>", 1<<20)} {
		if _, ok := impl.ReadTree(s); ok {
			t.Error(len(s))
		}
	}
}

// spared is a copy of t with filled room behind each list of kids.
func spared(t impl.Tree) impl.Tree {
	kids := make([]impl.Tree, 0, len(t.Kids)+2)
	for _, kid := range t.Kids {
		kids = append(kids, spared(kid))
	}
	full := kids[:cap(kids)]
	full[len(kids)], full[len(kids)+1] = leaf("spare"), leaf("room")
	return impl.Tree{Tag: t.Tag, Kids: kids}
}

// whole shows a tree with the room behind its lists.
func whole(t impl.Tree) any {
	var kids []any
	for _, kid := range t.Kids[:cap(t.Kids)] {
		kids = append(kids, whole(kid))
	}
	return []any{t.Tag, len(t.Kids), kids}
}

func TestTreesStayAsTheyAre(t *testing.T) {
	for _, x := range append(someTrees(), chain("a", 31), leaf(""), node("a", leaf("A"))) {
		given := spared(x)
		was := whole(given)
		for range 2 {
			impl.TreeOk(given)
			if impl.SizeOf(given) != impl.SizeOf(x) || impl.TreeText(given) != impl.TreeText(x) {
				t.Fatalf("%v: not the same answers", x)
			}
		}
		if !reflect.DeepEqual(whole(given), was) {
			t.Fatalf("%v: written into", x)
		}
	}
}

// fillBehind appends to each list of t; where two lists share memory that
// writes into another one.
func fillBehind(t impl.Tree) {
	for _, kid := range t.Kids {
		fillBehind(kid)
	}
	for i := len(t.Kids); i < cap(t.Kids); i++ {
		t.Kids[:cap(t.Kids)][i] = leaf("x")
	}
}

func TestReadTreesAreNew(t *testing.T) {
	for _, x := range someTrees() {
		s := impl.TreeText(x)
		one, _ := impl.ReadTree(s)
		two, _ := impl.ReadTree(s)
		fillBehind(one)
		if !sameTree(one, x) || !sameTree(two, x) {
			t.Fatalf("%q: lists share memory", s)
		}
		for i := range one.Kids {
			one.Kids[i] = leaf("x")
		}
		if !sameTree(two, x) {
			t.Fatalf("%q: two answers share memory", s)
		}
	}
}
