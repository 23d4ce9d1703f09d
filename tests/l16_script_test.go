package tests

import (
	"fmt"
	"math/rand"
	"regexp"
	"slices"
	"strings"
	"sync"
	"testing"

	"loop.example/g00376/impl"
)

// The document's table: a capital stands for any word. The ops have their Kind,
// all others 0.
var lineShapes = map[string]int64{
	"element A T": 1, "object A": 2, "set A F B": 3, "get A F B": 4, "unset A F": 5, "drop A": 6, "append A B": 7, "before A B": 8, "detach A": 9, "doc A": 10, "first A B": 11,
	"listen A T L": 12, "fire A T": 0, "collect": 0, "count": 0, "tree": 0, "tree A": 0, "who A": 0,
}

var (
	everyLine = regexp.MustCompile("[^\n]*\n")
	everyWord = regexp.MustCompile("[^ \n]+")
)

// shapeOf finds the shape that a line has, and what stands for its capitals.
// What comes behind listen is no part of its shape.
func shapeOf(words []string) (string, map[string]string) {
	for shape := range lineShapes {
		letters := strings.Split(shape, " ")
		if len(letters) != len(words) && !(words[0] == "listen" && len(words) > len(letters)) {
			continue
		}
		bound := map[string]string{}
		for i, letter := range letters[1:] {
			bound[letter] = words[i+1]
		}
		if letters[0] == words[0] {
			return shape, bound
		}
	}
	return "", nil
}

// saidIn tells a script anew, by the shapes of its lines and the models of the
// chapters that they ask for.
func saidIn(text string) string {
	lines := everyLine.FindAllString(text, -1)
	if len(lines) > 40 || len(text) > 4000 || strings.Join(lines, "") != text {
		return "too long\n"
	}
	h := impl.Heap{Next: 2, Doc: 1, Nodes: []impl.Node{{Id: 1, Tag: "doc"}}}
	all := ""
	for _, line := range lines {
		if words := everyWord.FindAllString(line, -1); len(words) > 0 {
			after, said := lineIn(h, words)
			h = after
			all += said + "\n"
		}
	}
	return all
}

func lineIn(h impl.Heap, words []string) (impl.Heap, string) {
	shape, bound := shapeOf(words)
	kind := lineShapes[shape]
	switch {
	case shape == "":
		return h, "what"
	case kind > 0:
		o := impl.Op{Kind: kind, Name: bound["A"], Other: bound["B"], Word: bound["T"] + bound["F"]}
		if kind == 12 {
			l, ok := listenerWith(bound["T"], bound["L"], words[4:])
			if !ok {
				return h, "what"
			}
			o.Word, o.Listener = "", l
		}
		after, code := modelRan(h, o)
		if code != 0 {
			return h, fmt.Sprint("no ", code)
		}
		return after, "ok"
	case shape == "fire A T":
		after, calls, code := firedIn(h, bound["A"], bound["T"])
		if code != 0 {
			return h, fmt.Sprint("no ", code)
		}
		said := "fired"
		for _, c := range calls {
			said += fmt.Sprintf(" %d:%s", c.Node, c.Name)
		}
		return after, said
	case shape == "collect":
		gone := unreachedIn(h)
		return leftOf(h, gone), fmt.Sprint("collected ", len(gone))
	}
	return h, askedIn(h, shape, bound["A"])
}

func listenerWith(typ, name string, flags []string) (impl.Listener, bool) {
	l := impl.Listener{Type: typ, Name: name, Capture: slices.Contains(flags, "capture"), Once: slices.Contains(flags, "once")}
	for _, f := range flags {
		if !slices.Contains([]string{"capture", "once", "stop", "now"}, f) {
			return l, false
		}
		l.Stop = map[string]int64{"capture": l.Stop, "once": l.Stop, "stop": 1, "now": 2}[f]
	}
	return l, true
}

func askedIn(h impl.Heap, shape, name string) string {
	m := modelOf(h)
	its := m.globals[name]
	switch {
	case shape == "count":
		return fmt.Sprint("count ", len(h.Nodes), " ", len(h.Objs), " ", len(everyId(h))-len(unreachedIn(h)))
	case shape == "tree":
		return "tree " + textBelow(m.doc)
	case its == nil, shape == "tree A" && its.node == nil:
		return "no"
	case shape == "tree A":
		return "tree " + textBelow(its.node)
	case its.node == nil:
		return fmt.Sprint("who ", its.id, " 0")
	}
	return fmt.Sprint("who ", its.id, " ", its.node.id)
}

// asksScript holds what a script says against the telling above.
func asksScript(t *testing.T, text string) string {
	t.Helper()
	got, want := impl.RunScript(text), saidIn(text)
	if got != want {
		t.Fatalf("%q:\n%q, want\n%q", text, got, want)
	}
	return got
}

func says(t *testing.T, text, want string) {
	t.Helper()
	if got := asksScript(t, text); got != want {
		t.Errorf("%q:\n%q, want\n%q", text, got, want)
	}
}

// plays runs rows of a line and, behind a |, what it says.
func plays(t *testing.T, rows string) {
	t.Helper()
	text, want := "", ""
	for _, row := range strings.Split(strings.TrimSpace(rows), "\n") {
		line, said, _ := strings.Cut(row, "|")
		text += strings.TrimSpace(line) + "\n"
		if said = strings.TrimSpace(said); said != "" {
			want += said + "\n"
		}
	}
	says(t, text, want)
}

func TestConstantsOfScripts(t *testing.T) {
	if impl.MaxScript != 40 || impl.MaxLines != 4000 {
		t.Error(impl.MaxScript, impl.MaxLines)
	}
}

func TestLinesThatMake(t *testing.T) {
	plays(t, `
		count        | count 1 0 1
		tree         | tree <doc></doc>
		element a p  | ok
		who a        | who 3 2
		tree a       | tree <p></p>
		count        | count 2 1 3
		object o     | ok
		who o        | who 4 0
		tree o       | no
		count        | count 2 2 4
		doc d        | ok
		who d        | who 5 1
		tree d       | tree <doc></doc>
		doc e        | ok
		who e        | who 5 1
		element a li | ok
		who a        | who 7 6
		tree a       | tree <li></li>
		count        | count 3 4 5
		doc a        | ok
		who a        | who 5 1
		object a     | ok
		who a        | who 8 0
		count        | count 3 5 4
		drop a       | ok
		who a        | no
		tree a       | no
		count        | count 3 5 3
		collect      | collected 5
		count        | count 1 2 3
		drop a       | no 3
		who o        | who 4 0`)
}

func TestLinesThatHold(t *testing.T) {
	plays(t, `
		object a    | ok
		object b    | ok
		element p p | ok
		set a x b   | ok
		set a y p   | ok
		set b x a   | ok
		get a x c   | ok
		who c       | who 3 0
		get a y c   | ok
		who c       | who 5 4
		tree c      | tree <p></p>
		get b x b   | ok
		who b       | who 2 0
		set a x a   | ok
		get a x c   | ok
		who c       | who 2 0
		unset a x   | ok
		get a x c   | no 3
		unset a x   | no 3
		who c       | who 2 0
		get a y q   | ok
		who q       | who 5 4
		unset a y   | ok
		unset a y   | no 3
		count       | count 2 3 4
		collect     | collected 1`)
	// the field is the second word, the other name the third one
	plays(t, `
		object a  | ok
		object b  | ok
		set a b b | ok
		get a b a | ok
		who a     | who 3 0
		get a b b | no 3
		set b a a | ok
		get b a x | ok
		who x     | who 3 0
		set a f a | ok
		unset f a | no 3
		unset a f | ok`)
}

func TestLinesThatPut(t *testing.T) {
	plays(t, `
		doc d        | ok
		element a a  | ok
		element b b  | ok
		element c c  | ok
		append d a   | ok
		append d b   | ok
		tree         | tree <doc><a></a><b></b></doc>
		before a c   | ok
		tree         | tree <doc><c></c><a></a><b></b></doc>
		before b c   | ok
		tree         | tree <doc><a></a><c></c><b></b></doc>
		before b b   | ok
		append a c   | ok
		tree         | tree <doc><a><c></c></a><b></b></doc>
		tree a       | tree <a><c></c></a>
		tree b       | tree <b></b>
		first d x    | ok
		who x        | who 4 3
		first x x    | ok
		who x        | who 8 7
		detach a     | ok
		tree         | tree <doc><b></b></doc>
		tree d       | tree <doc><b></b></doc>
		tree a       | tree <a><c></c></a>
		append b a   | ok
		tree         | tree <doc><b><a><c></c></a></b></doc>
		append c b   | no 6
		append a d   | no 6
		before a b   | no 6
		before a d   | no 6
		detach d     | no 3
		tree         | tree <doc><b><a><c></c></a></b></doc>`)
}

const deepPage = "doc d\nelement a a\nelement p p\nappend d a\nappend a p\n"

func TestFire(t *testing.T) {
	says(t, deepPage+"fire p click\nfire d click\n", strings.Repeat("ok\n", 5)+"fired\nfired\n")
	says(t, deepPage+`listen d click one capture
listen d click two
listen a click three capture
listen a click four
listen p click five
listen p click six capture
listen p key seven
fire p click
fire a click
fire d click
fire p key
fire a key
fire p other
fire p click
`, strings.Repeat("ok\n", 12)+`fired 1:one 3:three 5:six 5:five 3:four 1:two
fired 1:one 3:three 3:four 1:two
fired 1:one 1:two
fired 5:seven
fired
fired
fired 1:one 3:three 5:six 5:five 3:four 1:two
`)
	says(t, "element a a\nlisten a x f\nlisten a x f\nlisten a x g once\nlisten a x f\nfire a x\nfire a x\nlisten a x g\nlisten a x h\n",
		strings.Repeat("ok\n", 5)+"fired 2:f 2:f 2:g 2:f\nfired 2:f 2:f 2:f\nok\nno 4\n")
}

// What a listener is is seen by who is called beside it, above it, and the
// second time.
func TestListenWords(t *testing.T) {
	around := [2]string{deepPage + "listen d go above\n", "listen p go later\nlisten p go caught capture\nfire p go\nfire p go\n"}
	ok := strings.Repeat("ok\n", 9)
	for flags, fired := range map[string]string{
		"":                       "fired 5:caught 5:it 5:later 1:above\nfired 5:caught 5:it 5:later 1:above\n",
		"once":                   "fired 5:caught 5:it 5:later 1:above\nfired 5:caught 5:later 1:above\n",
		"stop":                   "fired 5:caught 5:it 5:later\nfired 5:caught 5:it 5:later\n",
		"now":                    "fired 5:caught 5:it\nfired 5:caught 5:it\n",
		"capture":                "fired 5:it 5:caught 5:later 1:above\nfired 5:it 5:caught 5:later 1:above\n",
		"capture stop":           "fired 5:it 5:caught\nfired 5:it 5:caught\n",
		"capture now":            "fired 5:it\nfired 5:it\n",
		"capture once":           "fired 5:it 5:caught 5:later 1:above\nfired 5:caught 5:later 1:above\n",
		"once stop":              "fired 5:caught 5:it 5:later\nfired 5:caught 5:later 1:above\n",
		"stop now":               "fired 5:caught 5:it\nfired 5:caught 5:it\n",
		"now stop":               "fired 5:caught 5:it 5:later\nfired 5:caught 5:it 5:later\n",
		"now once stop":          "fired 5:caught 5:it 5:later\nfired 5:caught 5:later 1:above\n",
		"stop capture now":       "fired 5:it\nfired 5:it\n",
		"now stop now":           "fired 5:caught 5:it\nfired 5:caught 5:it\n",
		"stop now stop":          "fired 5:caught 5:it 5:later\nfired 5:caught 5:it 5:later\n",
		"capture capture":        "fired 5:it 5:caught 5:later 1:above\nfired 5:it 5:caught 5:later 1:above\n",
		"once once":              "fired 5:caught 5:it 5:later 1:above\nfired 5:caught 5:later 1:above\n",
		"stop stop":              "fired 5:caught 5:it 5:later\nfired 5:caught 5:it 5:later\n",
		"now now":                "fired 5:caught 5:it\nfired 5:caught 5:it\n",
		"capture once stop now":  "fired 5:it\nfired 5:caught 5:later 1:above\n",
		"now stop once capture":  "fired 5:it 5:caught\nfired 5:caught 5:later 1:above\n",
		"once capture once stop": "fired 5:it 5:caught\nfired 5:caught 5:later 1:above\n",
	} {
		says(t, around[0]+"listen p go it "+flags+"\n"+around[1], ok+fired)
	}
	// as many of these words as one likes
	many := strings.Repeat("now once stop capture ", 100)
	says(t, around[0]+"listen p go it "+many+"\n"+around[1], ok+"fired 5:it 5:caught\nfired 5:caught 5:later 1:above\n")
}

// Up to four words in any order, each up to four times, with one among them
// that is none.
func TestListenWordsInAnyOrder(t *testing.T) {
	seen := map[string]int{}
	for n := range 5 {
		each([]string{"capture", "once", "stop", "now", "fast"}, n, func(l []string) {
			said := asksScript(t, deepPage+"listen d go above\nlisten p go it "+strings.Join(l, " ")+"\nlisten p go later\nlisten p go caught capture\nfire p go\nfire p go\n")
			if slices.Contains(l, "fast") != strings.Contains(said, "what") {
				t.Error(l, said)
			}
			seen[said]++
		})
	}
	if len(seen) != 2*2*3+1 {
		t.Error("too much alike", len(seen))
	}
}

func TestCollectLine(t *testing.T) {
	says(t, "collect\n", "collected 0\n")
	plays(t, `
		element a a   | ok
		element b b   | ok
		append a b    | ok
		object o      | ok
		set o x o     | ok
		set b y o     | ok
		collect       | collected 0
		drop o        | ok
		collect       | collected 0
		drop a        | ok
		collect       | collected 0
		count         | count 3 3 6
		drop b        | ok
		count         | count 3 3 1
		collect       | collected 5
		count         | count 1 0 1
		collect       | collected 0
		element a a   | ok
		who a         | who 8 7
		element a a   | ok
		element a a   | ok
		object a      | ok
		collect       | collected 6`)
	// where there was no room there is some
	fill := strings.Repeat("element a a\n", 15)
	says(t, fill+"element a a\ncount\ncollect\ncount\nelement a a\nwho a\n", strings.Repeat("ok\n", 15)+"no 4\ncount 16 15 3\ncollected 28\ncount 2 1 3\nok\nwho 33 32\n")
}

// theSameBehind asks that a line is refused, that nothing is changed then, and
// that it is refused again.
func theSameBehind(t *testing.T, ahead, line, said string) {
	t.Helper()
	asks := "count\ntree\nwho a\nwho b\nwho z\ntree a\n"
	were := asksScript(t, ahead)
	got := asksScript(t, ahead+asks+line+"\n"+asks+line+"\n")
	rest, ok := strings.CutPrefix(got, were)
	half := len(rest) / 2
	if !ok || rest[:half] != rest[half:] || !strings.HasSuffix(rest, "\n"+said+"\n") {
		t.Errorf("%q %q: %q, want %q", ahead, line, got, said)
	}
}

func TestRefusedLines(t *testing.T) {
	names := strings.Join([]string{"object b", "object c", "object e", "object f", "object g", "object h", ""}, "\n")
	kids := "doc d\nelement a a\nelement b b\nappend a b\n"
	fields := "object a\nset a r a\nset a s a\nset a t a\nset a u a\nset a v a\n"
	objects := strings.Repeat("object a\n", 16)
	nodes := strings.Repeat("element a a\n", 15)
	heard := "element a a\n" + strings.Repeat("listen a x f\n", 4)
	for _, c := range []struct{ ahead, line, said string }{
		{"", "element A a", "no 2"}, {"", "element a A", "no 2"}, {nodes, "element a a", "no 4"}, {objects, "element a a", "no 4"}, {"object a\nobject i\n" + names, "element z a", "no 4"},
		{"", "object A", "no 2"}, {objects, "object a", "no 4"}, {"object a\nobject i\n" + names, "object z", "no 4"},
		{"", "doc A", "no 2"}, {objects, "doc a", "no 4"}, {"object a\nobject i\n" + names, "doc z", "no 4"}, {"doc a\nobject i\n" + names, "doc z", "no 4"},
		{"object a\n", "drop A", "no 2"}, {"object a\n", "drop z", "no 3"}, {"object a\ndrop a\n", "drop a", "no 3"},
		{"object a\n", "detach A", "no 2"}, {"object a\n", "detach z", "no 3"}, {"element a a\n", "detach a", "no 3"}, {"doc a\n", "detach a", "no 3"}, {"object a\n", "detach a", "no 5"},
		{"object a\n", "set A x a", "no 2"}, {"object a\n", "set a X a", "no 2"}, {"object a\n", "set a x A", "no 2"}, {"object a\n", "set z x a", "no 3"}, {"object a\n", "set a x z", "no 3"}, {fields, "set a w a", "no 4"},
		{"object a\n", "get A x a", "no 2"}, {"object a\n", "get a X a", "no 2"}, {"object a\n", "get a x A", "no 2"}, {"object a\n", "get z x a", "no 3"}, {"object a\n", "get a x a", "no 3"}, {"object a\nobject i\nset a x a\n" + names, "get a x z", "no 4"},
		{"object a\n", "unset A x", "no 2"}, {"object a\n", "unset a X", "no 2"}, {"object a\n", "unset z x", "no 3"}, {"object a\n", "unset a x", "no 3"}, {fields, "unset a w", "no 3"},
		{kids, "append A b", "no 2"}, {kids, "append a B", "no 2"}, {kids, "append z b", "no 3"}, {kids, "append a z", "no 3"}, {kids + "object z\n", "append a z", "no 5"}, {kids + "object z\n", "append z b", "no 5"},
		{kids, "append a a", "no 6"}, {kids, "append b a", "no 6"}, {kids, "append a d", "no 6"},
		{kids, "before A b", "no 2"}, {kids, "before a B", "no 2"}, {kids, "before z b", "no 3"}, {kids, "before a z", "no 3"}, {kids, "before a b", "no 3"}, {kids + "object z\n", "before b z", "no 5"}, {kids + "object z\n", "before z b", "no 5"},
		{kids, "before b a", "no 6"}, {kids, "before b d", "no 6"},
		{kids, "first A b", "no 2"}, {kids, "first a B", "no 2"}, {kids, "first z b", "no 3"}, {kids, "first b z", "no 3"}, {"object a\n", "first a b", "no 5"}, {kids + "object i\nobject j\n" + strings.Replace(names, "object b\nobject c\n", "", 1), "first a z", "no 4"},
		{heard, "listen A x f", "no 2"}, {heard, "listen a X f", "no 2"}, {heard, "listen a x F", "no 2"}, {"", "listen a x f", "no 3"}, {heard, "listen a x f", "no 4"}, {heard, "listen a y g once", "no 4"}, {"object a\n", "listen a x f", "no 5"},
		{heard, "fire A x", "no 2"}, {heard, "fire a X", "no 2"}, {heard, "fire z x", "no 3"}, {"object a\n", "fire a x", "no 5"},
		{"object a\n", "tree z", "no"}, {"object a\n", "tree a", "no"}, {"object a\n", "tree A", "no"}, {"object a\n", "who z", "no"}, {"object a\n", "who A", "no"}, {"object a\n", "who abcdefg", "no"}, {"object a\ndrop a\n", "who a", "no"},
		{kids, "fly a", "what"}, {kids, "listen a x f fast", "what"}, {kids, "append a", "what"},
	} {
		theSameBehind(t, c.ahead, c.line, c.said)
	}
}

// Where just so much room is left there is a done one ahead of the refused one.
func TestLastRoomOfLines(t *testing.T) {
	for _, c := range []struct {
		first, line, last string
		n                 int
	}{
		{"", "element a a", "no 4", 15}, {"", "object a", "no 4", 16}, {"element a a\n", "listen a x f", "no 4", 4}, {"doc d\n", "element a a", "no 4", 15}, {"object o\ndoc d\n", "element a a", "no 4", 14},
	} {
		said := asksScript(t, c.first+strings.Repeat(c.line+"\n", c.n+1))
		want := strings.Repeat("ok\n", strings.Count(c.first, "\n")+c.n) + c.last + "\n"
		if said != want {
			t.Error(c, said)
		}
	}
}

// Promise 16: lines that ask tell what there is where they stand.
func TestAsksAroundOps(t *testing.T) {
	plays(t, `
		who a       | no
		tree a      | no
		tree        | tree <doc></doc>
		count       | count 1 0 1
		element a p | ok
		who a       | who 3 2
		tree a      | tree <p></p>
		tree        | tree <doc></doc>
		count       | count 2 1 3
		doc d       | ok
		append d a  | ok
		who a       | who 3 2
		tree a      | tree <p></p>
		tree        | tree <doc><p></p></doc>
		count       | count 2 2 4
		drop a      | ok
		who a       | no
		tree a      | no
		tree        | tree <doc><p></p></doc>
		count       | count 2 2 4
		object a    | ok
		who a       | who 5 0
		tree a      | no
		count       | count 2 3 5
		drop a      | ok
		count       | count 2 3 4
		who a       | no
		first d a   | ok
		who a       | who 3 2`)
}

func TestGreatTreeInAScript(t *testing.T) {
	text, want := "doc a\n", ""
	for range 15 {
		text += "element b abcdef\nappend a b\n"
		want += "<abcdef></abcdef>"
	}
	says(t, text+"tree\ntree a\ntree b\ncount\nwho b\n",
		strings.Repeat("ok\n", 31)+"tree <doc>"+want+"</doc>\ntree <doc>"+want+"</doc>\ntree <abcdef></abcdef>\ncount 16 16 32\nwho 32 31\n")
}

func TestBlanks(t *testing.T) {
	for _, blank := range []string{" ", "  ", "       ", strings.Repeat(" ", 300)} {
		says(t, blank+"element"+blank+"a"+blank+"p"+blank+"\n"+blank+"tree"+blank+"\n"+blank+"tree"+blank+"a\nlisten a"+blank+"x f"+blank+"once"+blank+"\nfire a x"+blank+"\n",
			"ok\ntree <doc></doc>\ntree <p></p>\nok\nfired 2:f\n")
		says(t, blank+"\n", "")
		says(t, blank+"\n"+blank+"\n\n"+blank+"count"+blank+"\n"+blank+"\n", "count 1 0 1\n")
		says(t, blank+"fly"+blank+"\n"+blank+"tree"+blank+"a"+blank+"b"+blank+"\n", "what\nwhat\n")
		says(t, blank, "too long\n")
	}
	// a blank within a word makes two of it
	says(t, "t ree\nele ment a p\nobject a b\nco unt\n", "what\nwhat\nwhat\nwhat\n")
}

func TestLinesWithoutWords(t *testing.T) {
	for n := range 41 {
		says(t, strings.Repeat("\n", n), "")
		says(t, strings.Repeat("  \n", n), "")
	}
	says(t, "\n\nobject a\n\n \n   \nwho a\n\n", "ok\nwho 2 0\n")
	says(t, "\nwho a\nobject a\n\nwho a\n", "no\nok\nwho 2 0\n")
}

func TestHowManyLines(t *testing.T) {
	for n := range 45 {
		for line, said := range map[string]string{"tree": "tree <doc></doc>\n", "fly": "what\n", "": "", "  ": "", "object a": "", "drop a": "no 3\n"} {
			text := strings.Repeat(line+"\n", n)
			switch got := asksScript(t, text); {
			case n > 40 && got != "too long\n":
				t.Error(n, line, got)
			case n <= 40 && line != "object a" && got != strings.Repeat(said, n):
				t.Error(n, line, got)
			}
		}
	}
	says(t, strings.Repeat("\n", 39)+"count\n", "count 1 0 1\n")
	says(t, strings.Repeat("\n", 40)+"count\n", "too long\n")
	says(t, "count\n"+strings.Repeat(" \n", 39), "count 1 0 1\n")
	says(t, "count\n"+strings.Repeat(" \n", 40), "too long\n")
	says(t, strings.Repeat("\ncount\n", 20), strings.Repeat("count 1 0 1\n", 20))
	says(t, strings.Repeat("\ncount\n", 20)+"\n", "too long\n")
	says(t, strings.Repeat("count\n", 40)+" ", "too long\n")
	says(t, strings.Repeat("count\n", 40)+"count", "too long\n")
}

func TestHowManyBytes(t *testing.T) {
	for n := 3990; n < 4010; n++ {
		for _, blanks := range [][2]string{{"", strings.Repeat(" ", n-6)}, {strings.Repeat(" ", n-6), ""}, {strings.Repeat(" ", n-7), " "}} {
			want := "count 1 0 1\n"
			if n > 4000 {
				want = "too long\n"
			}
			says(t, blanks[0]+"count"+blanks[1]+"\n", want)
		}
		want := "no 2\nwhat\nno\n"
		if n > 4000 {
			want = "too long\n"
		}
		says(t, "object "+strings.Repeat("a", n-18)+"\nfly\nwho A\n", want)
	}
	says(t, strings.Repeat(strings.Repeat(" ", 99)+"\n", 40), "")
	says(t, strings.Repeat("count"+strings.Repeat(" ", 94)+"\n", 40), strings.Repeat("count 1 0 1\n", 40))
	says(t, strings.Repeat("count"+strings.Repeat(" ", 94)+"\n", 39)+"count"+strings.Repeat(" ", 95)+"\n", "too long\n")
	says(t, strings.Repeat("x", 3999)+"\n", "what\n")
	says(t, strings.Repeat("x", 4000)+"\n", "too long\n")
	says(t, strings.Repeat("é", 1999)+"x\n", "what\n")
	says(t, strings.Repeat("é", 2000)+"\n", "too long\n")
	says(t, strings.Repeat("\n", 4000), "too long\n")
}

func TestLastLines(t *testing.T) {
	says(t, "", "")
	says(t, "\n", "")
	says(t, "tree\n", "tree <doc></doc>\n")
	for _, text := range []string{"tree", "tree\ntree", "tree\n ", " ", "x", "\n\nx", "\x00", "tree\r", "tree\n\r", "tree\\n", "tree\n\x00", "\n ", "object a\nwho a", strings.Repeat("a", 4000), strings.Repeat(" ", 4000)} {
		says(t, text, "too long\n")
		says(t, text+"\n"+text, "too long\n")
	}
}

func TestVeryLongScripts(t *testing.T) {
	defer endsSoon("very long scripts")()
	for _, piece := range []string{"a", " ", "\n", "tree\n", "\x00", "a "} {
		if got := impl.RunScript(strings.Repeat(piece, 1<<22)); got != "too long\n" {
			t.Errorf("%q: %q", piece, got)
		}
	}
}

// Words that stand for a line's capitals, so that it does what it asks behind
// wordsAhead.
const wordsAhead = "doc d\nelement a p\nelement b p\nappend d a\nappend a b\nset a f b\n"

func wordsOfShape(shape string) []string {
	words := strings.Split(shape, " ")
	for i, letter := range words {
		if with, ok := map[string]string{"A": "a", "B": "b", "F": "f", "T": "t", "L": "l"}[letter]; ok {
			words[i] = with
		}
	}
	return words
}

func TestWordsTooFewOrTooMany(t *testing.T) {
	ahead := strings.Repeat("ok\n", 6)
	for shape := range lineShapes {
		words := wordsOfShape(shape)
		if got := asksScript(t, wordsAhead+strings.Join(words, " ")+"\n"); strings.Contains(got, "what") {
			t.Error(shape, got)
		}
		for n := 1; n < len(words); n++ {
			if shape != "tree A" {
				says(t, wordsAhead+strings.Join(words[:n], " ")+"\n", ahead+"what\n")
			}
		}
		if shape == "tree" {
			continue
		}
		for _, more := range []string{"a", "b", "x", "A", "0", ".", "\x00", "capture?", "capturenow", "a b", "capture a", "a once"} {
			says(t, wordsAhead+strings.Join(words, " ")+" "+more+"\n", ahead+"what\n")
			if !strings.HasPrefix(shape, "listen") {
				says(t, wordsAhead+strings.Join(words, " ")+" once\n", ahead+"what\n")
			}
		}
	}
	says(t, "tree a b\ntree a b c\ncount 1\ncollect all\nwho\nwho a b\n", strings.Repeat("what\n", 6))
}

func TestFirstWords(t *testing.T) {
	for shape := range lineShapes {
		words := wordsOfShape(shape)
		first, rest := words[0], strings.Join(words[1:], " ")
		none := []string{strings.ToUpper(first), strings.ToUpper(first[:1]) + first[1:], first[:1] + strings.ToUpper(first[1:]), first + first, first + "s", first[1:], first[:len(first)-1], "a", "x" + first}
		for _, sign := range []string{".", ",", ":", ";", "!", "?", "(", "\t", "\r", "\x00", "\v", "\f", "_", "-", "\"", "\x7f", "\x80", "\xff", "é", "\u00a0", "\u0085", "\u2003", "\u2028", "\u3000", "\ufeff", "\xe2\x80"} {
			none = append(none, first+sign, sign+first, first[:2]+sign+first[2:])
		}
		for _, word := range none {
			says(t, wordsAhead+word+" "+rest+"\n", strings.Repeat("ok\n", 6)+"what\n")
			says(t, wordsAhead+word+"\n", strings.Repeat("ok\n", 6)+"what\n")
		}
	}
	for _, word := range []string{"fly", "0", "#", "//", "ok", "no", "what", "fired", "collected", "too", "long", "capture", "once", "stop", "now", "op", "help", "exit", "remove", "lookup", "global", "field", "above", "send"} {
		says(t, word+"\n"+word+" a\n"+word+" a b\n"+word+" a b c\n", strings.Repeat("what\n", 4))
	}
}

func TestWordsBehindListen(t *testing.T) {
	for _, word := range []string{"fast", "Capture", "CAPTURE", "captur", "captures", "Once", "onc", "ones", "Stop", "stops", "sto", "Now", "no", "nows", "capture,once", "capture\tonce", "stop\r", "now\x00", "\xffnow", "1", "2", "0", "true", "passiv", "stop\u00a0now"} {
		for _, l := range []string{"", "capture ", "once ", "stop ", "now ", "capture once stop now "} {
			says(t, "element a p\nlisten a x f "+l+word+"\nlisten a x f "+word+" "+l+"\nlisten z X F "+word+"\nfire a x\n", "ok\nwhat\nwhat\nwhat\nfired\n")
		}
	}
	// such a word may be the listener's name, or its type, if it is a name
	says(t, "element a p\nlisten a once stop\nlisten a now now now\nlisten a now once once\nfire a once\nfire a now\nfire a now\nlisten a x capture\n", "ok\nok\nok\nok\nfired 2:stop\nfired 2:now\nfired 2:now\nno 2\n")
	says(t, "element a p\nlisten a now\nlisten a once capture\nlisten once now stop capture\n", "ok\nwhat\nno 2\nno 3\n")
	// the words are looked at ahead of the op
	says(t, "listen A x f fast\nlisten A x f once\nlisten a x f once\n", "what\nno 2\nno 3\n")
}

var wordsThatAreNoNames = []string{"A", "Z", "abcdefg", "aB", "a1", "1", "0", "-", "_", "a-b", "a.", ".", "é", "aé", "\x00", "a\x00", "\t", "a\tb", "a\r", "\v", "\x7f", "\x80", "\xff", "a\xff", "\u00a0", "a\u2003b", "<p>", "a,b", "`", "{", "@", "["}

func TestNamesInLines(t *testing.T) {
	for shape := range lineShapes {
		words := wordsOfShape(shape)
		said := "no 2\n"
		if words[0] == "tree" || words[0] == "who" {
			said = "no\n"
		}
		for at := 1; at < len(words); at++ {
			for _, word := range wordsThatAreNoNames {
				line := slices.Clone(words)
				line[at] = word
				says(t, wordsAhead+strings.Join(line, " ")+"\n", strings.Repeat("ok\n", 6)+said)
			}
			for _, word := range []string{"a", "z", "abcdef", "zzzzzz", "once", "tree", "doc", "no", "ok"} {
				line := slices.Clone(words)
				line[at] = word
				if got := asksScript(t, wordsAhead+strings.Join(line, " ")+"\n"); strings.HasSuffix(got, "no 2\n") || strings.HasSuffix(got, "what\n") {
					t.Error(line, got)
				}
			}
		}
	}
}

// Every byte, within a word, ahead of one and behind one: 32 alone parts, 10
// alone ends.
func TestEveryByte(t *testing.T) {
	for c := range 256 {
		sign := string([]byte{byte(c)})
		if c == ' ' || c == '\n' {
			continue
		}
		name := "no 2\n"
		if c >= 'a' && c <= 'z' {
			name = "ok\n"
		}
		says(t, "object a"+sign+"b\n", name)
		says(t, "object "+sign+"a\n", name)
		says(t, "object a"+sign+"\n", name)
		says(t, "object"+sign+"a\n", "what\n")
		says(t, "object"+sign+" a\n", "what\n")
		says(t, sign+"object a\n", "what\n")
		says(t, "object a "+sign+"\n", "what\n")
		says(t, "tree"+sign+"\n", "what\n")
		says(t, sign+"tree\n", "what\n")
		says(t, sign+" tree\n", "what\n")
		says(t, sign+"\n", "what\n")
		says(t, "tree\n"+sign, "too long\n")
	}
	says(t, "object a b\n", "what\n")
	says(t, "object a\nb\n", "ok\nwhat\n")
	says(t, "tree\r\ncount\r\n\r\ncount\n", "what\nwhat\nwhat\ncount 1 0 1\n")
}

// Lines of every shape over few words, right and wrong.
func fewLines() []string {
	var lines []string
	fill := map[string][]string{"A": {"a", "b", "d"}, "B": {"a", "b"}, "F": {"x"}, "T": {"p", "q"}, "L": {"f", "g"}}
	for shape := range lineShapes {
		made := []string{""}
		for _, word := range strings.Split(shape, " ") {
			var longer []string
			for _, line := range made {
				for _, with := range append(fill[word], word)[:max(1, len(fill[word]))] {
					longer = append(longer, line+" "+with)
				}
			}
			made = longer
		}
		lines = append(lines, made...)
	}
	slices.Sort(lines)
	return lines
}

func TestFewLinesAreOfEveryShape(t *testing.T) {
	seen := map[string]int{}
	for _, line := range fewLines() {
		shape, _ := shapeOf(strings.Fields(line))
		seen[shape]++
	}
	if len(seen) != len(lineShapes) || seen[""] != 0 || seen["set A F B"] != 6 || seen["listen A T L"] != 12 {
		t.Error(seen)
	}
}

// All that two lines can come to, behind a beginning.
func TestPairsOfLines(t *testing.T) {
	lines := fewLines()
	seen := map[string]int{}
	for _, ahead := range []string{"", "doc d\nelement a p\nelement b q\nappend d a\nset a x b\nlisten a p f once\n"} {
		each(lines, 2, func(l []string) {
			seen[asksScript(t, ahead+l[0]+"\n"+l[1]+"\ncount\ntree\ntree a\nwho b\nwho d\nfire a p\n")]++
		})
	}
	if len(seen) < 300 {
		t.Error("too much alike", len(seen))
	}
}

// anyLine is one of the table, most times, with words that do something.
func anyLine(r *rand.Rand) string {
	pick := func(l ...string) string { return l[r.Intn(len(l))] }
	name := func() string { return pick("a", "b", "c", "d") }
	word := func() string { return pick("x", "y") }
	switch r.Intn(40) {
	case 0, 1, 2, 3, 4:
		return "element " + name() + " " + pick("p", "li", "abcdef")
	case 5:
		return "object " + name()
	case 6, 7:
		return "doc " + name()
	case 8:
		return pick("drop ", "detach ") + name()
	case 9, 10, 11:
		return "set " + name() + " " + word() + " " + name()
	case 12, 13:
		return "get " + name() + " " + word() + " " + name()
	case 14:
		return "unset " + name() + " " + word()
	case 15, 16, 17, 18, 19:
		return "append " + name() + " " + name()
	case 20, 21:
		return pick("before ", "first ") + name() + " " + name()
	case 22, 23, 24, 25, 26:
		return "listen " + name() + " " + word() + " " + pick("f", "g", "h") + pick("", "", " once", " capture", " stop", " now", " once capture", " now stop", " capture stop once now", " wrong")
	case 27, 28, 29, 30:
		return "fire " + name() + " " + word()
	case 31:
		return "collect"
	case 32, 33, 34, 35, 36:
		return anyAsk(r)
	case 37:
		return pick("", " ", "    ")
	}
	return pick("fly", "element a", "set a x", "append a b c", "tree a b", "object A", "element abcdefg p", "listen a x", "who", "count all", "fire a", "drop\ta", "fire a X", "set a X b", "Tree")
}

func anyAsk(r *rand.Rand) string {
	asks := []string{"count", "tree", "tree a", "tree b", "tree c", "tree d", "tree z", "who a", "who b", "who c", "who d", "who z"}
	return asks[r.Intn(len(asks))]
}

// anyScript begins with one of everything, most times, or with so much that
// little room is left.
func anyScript(r *rand.Rand, most int) []string {
	beginnings := []string{"", wordsAhead, wordsAhead, strings.Repeat("element a p\n", 13), strings.Repeat("object b\n", 14), wordsAhead + strings.Repeat("listen a x f\n", 4), wordsAhead + "listen d x f capture\nlisten a x g once\nlisten b x h\nlisten b x f stop\nlisten d y g\n"}
	lines := everyLine.FindAllString(beginnings[r.Intn(len(beginnings))], -1)
	n := r.Intn(most + 1)
	for len(lines) < n {
		lines = append(lines, anyLine(r)+"\n")
	}
	return lines[:n]
}

func TestManyScripts(t *testing.T) {
	r := rand.New(rand.NewSource(160))
	seen := map[string]int{}
	for range 6000 {
		for _, said := range strings.Split(asksScript(t, strings.Join(anyScript(r, 40), "")), "\n") {
			word, rest, _ := strings.Cut(said, " ")
			switch {
			case word == "no" || word == "collected":
				word = said
			case word == "fired":
				word += fmt.Sprint(" ", strings.Count(rest, ":"))
			}
			seen[word]++
		}
	}
	for _, word := range []string{"ok", "no", "no 2", "no 3", "no 4", "no 5", "no 6", "fired 0", "fired 1", "fired 2", "fired 3", "fired 4", "collected 0", "collected 2", "collected 24", "count", "tree", "who", "what"} {
		if seen[word] < 50 {
			t.Error("too much alike", word, seen)
		}
	}
}

// Bytes of a script put elsewhere, taken out or in.
func TestSpoiledScripts(t *testing.T) {
	r := rand.New(rand.NewSource(161))
	signs := []byte(" \n\n  \t\r\x00Aaz:0\x80\xff")
	for range 6000 {
		text := []byte(strings.Join(anyScript(r, 41), ""))
		for range 1 + r.Intn(5) {
			at, sign := r.Intn(len(text)+1), signs[r.Intn(len(signs))]
			switch {
			case at == len(text) || r.Intn(3) == 0:
				text = slices.Insert(text, at, sign)
			case r.Intn(2) == 0:
				text[at] = sign
			default:
				text = slices.Delete(text, at, at+1)
			}
		}
		asksScript(t, string(text))
	}
}

// saysOf has what each line of a script says, "" of those that say nothing.
func saysOf(t *testing.T, lines []string) []string {
	t.Helper()
	left := impl.RunScript(strings.Join(lines, ""))
	var said []string
	for _, line := range lines {
		if everyWord.FindString(line) == "" {
			said = append(said, "")
			continue
		}
		one, rest, ok := strings.Cut(left, "\n")
		if !ok || one == "" {
			t.Fatalf("%q says too little", lines)
		}
		said, left = append(said, one), rest
	}
	if left != "" {
		t.Fatalf("%q says %q at its end", lines, left)
	}
	return said
}

// Promise 16: what was said stays said, however many lines stand behind.
func TestWhatIsSaidStaysSaid(t *testing.T) {
	r := rand.New(rand.NewSource(162))
	for range 600 {
		lines := anyScript(r, 40)
		said := saysOf(t, lines)
		for n := range lines {
			if ahead := saysOf(t, lines[:n]); !slices.Equal(ahead, said[:n]) {
				t.Fatalf("%q says %q alone, %q with more", lines[:n], ahead, said[:n])
			}
		}
		// other lines behind the same beginning
		n := r.Intn(len(lines) + 1)
		other := slices.Concat(lines[:n], anyScript(r, 40-n))
		if ahead := saysOf(t, other); !slices.Equal(ahead[:n], said[:n]) {
			t.Fatalf("%q says %q, with others behind %q", lines[:n], said[:n], ahead[:n])
		}
	}
}

// As long as there are not too many: one line or byte more, and nothing is said
// but that.
func TestWhatIsSaidUpToTheLimits(t *testing.T) {
	r := rand.New(rand.NewSource(163))
	for range 300 {
		text := ""
		for range 39 {
			text += anyLine(r) + "\n"
		}
		said := asksScript(t, text)
		if more := asksScript(t, text+"count\n"); !strings.HasPrefix(more, said) || strings.Count(more, "\n") != strings.Count(said, "\n")+1 {
			t.Fatalf("%q: %q, then %q", text, said, more)
		}
		says(t, text+"\n\n", "too long\n")
		says(t, text+"\n"+"count\n", "too long\n")
		if more := asksScript(t, text+strings.Repeat(" ", 4000-len(text)-1)+"\n"); more != said {
			t.Fatalf("%q: %q, then %q", text, said, more)
		}
		says(t, text+strings.Repeat(" ", 4000-len(text))+"\n", "too long\n")
	}
}

// Promise 16: lines that ask, and such as are none, stand between the others;
// what these say is as without them.
func TestAsksChangeNothing(t *testing.T) {
	r := rand.New(rand.NewSource(164))
	idle := func() string {
		if r.Intn(4) > 0 {
			return anyAsk(r)
		}
		return []string{"fly", "tree a b", "", "  ", "listen a x f what", "who", "drop z", "object A", "fire z x"}[r.Intn(9)]
	}
	between := 0
	for range 3000 {
		lines := anyScript(r, 25)
		said := saysOf(t, lines)
		var all []string
		var own []bool
		for i := 0; i < len(lines); {
			if len(all)-i < 40-len(lines) && r.Intn(2) == 0 {
				all, own = append(all, idle()+"\n"), append(own, false)
				continue
			}
			all, own = append(all, lines[i]), append(own, true)
			i++
		}
		var rest []string
		for i, one := range saysOf(t, all) {
			if own[i] {
				rest = append(rest, one)
			} else {
				between++
			}
		}
		if !slices.Equal(rest, said) {
			t.Fatalf("%q says %q, with asks between %q", lines, said, rest)
		}
	}
	if between < 10000 {
		t.Error("too much alike", between)
	}
}

// What is asked twice, with no others between, is told alike.
func TestAskedTwice(t *testing.T) {
	r := rand.New(rand.NewSource(165))
	for range 1000 {
		lines := anyScript(r, 25)
		var asks []string
		for range 6 {
			asks = append(asks, anyAsk(r)+"\n")
		}
		said := saysOf(t, slices.Concat(lines, asks, asks))
		if n := len(lines); !slices.Equal(said[n:n+6], said[n+6:]) {
			t.Fatalf("%q %q: %q", lines, asks, said)
		}
	}
}

// Blanks change nothing, wherever words are parted.
func TestBlanksChangeNothing(t *testing.T) {
	r := rand.New(rand.NewSource(166))
	for range 1000 {
		text := strings.Join(anyScript(r, 40), "")
		spaced := ""
		for _, line := range everyLine.FindAllString(text, -1) {
			line = strings.ReplaceAll(line, " ", strings.Repeat(" ", 1+r.Intn(3)))
			spaced += strings.Repeat(" ", r.Intn(3)) + strings.TrimSuffix(line, "\n") + strings.Repeat(" ", r.Intn(3)) + "\n"
		}
		if got, want := asksScript(t, spaced), asksScript(t, text); got != want && len(spaced) <= 4000 {
			t.Fatalf("%q: %q, want %q", spaced, got, want)
		}
	}
}

// Scripts have nothing in common, not even when they are run at one time.
func TestScriptsBesideOneAnother(t *testing.T) {
	r := rand.New(rand.NewSource(167))
	var texts, want []string
	for range 40 {
		text := strings.Join(anyScript(r, 40), "")
		texts, want = append(texts, text), append(want, saidIn(text))
	}
	var all sync.WaitGroup
	for i := range 200 {
		all.Add(1)
		go func() {
			defer all.Done()
			if got := impl.RunScript(texts[i%40]); got != want[i%40] {
				t.Errorf("%q: %q, want %q", texts[i%40], got, want[i%40])
			}
		}()
	}
	all.Wait()
}
