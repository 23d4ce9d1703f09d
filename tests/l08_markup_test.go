package tests

import (
	"fmt"
	"math/rand"
	"reflect"
	"regexp"
	"slices"
	"strings"
	"testing"

	"loop.example/g00376/impl"
)

func words(text string) impl.Mark { return impl.Mark{Text: text} }

func tagged(tag string, kids ...impl.Mark) impl.Mark { return impl.Mark{Tag: tag, Kids: kids} }

// withAttrs reads pairs of a Name and a Value.
func withAttrs(m impl.Mark, pairs ...string) impl.Mark {
	m.Attrs = nil
	for i := 0; i < len(pairs); i += 2 {
		m.Attrs = append(m.Attrs, impl.Attr{Name: pairs[i], Value: pairs[i+1]})
	}
	return m
}

// markOf is that tree without texts and attributes.
func markOf(t impl.Tree) impl.Mark {
	m := impl.Mark{Tag: t.Tag}
	for _, kid := range t.Kids {
		m.Kids = append(m.Kids, markOf(kid))
	}
	return m
}

func sameMark(a, b impl.Mark) bool {
	return a.Tag == b.Tag && a.Text == b.Text && slices.Equal(a.Attrs, b.Attrs) && slices.EqualFunc(a.Kids, b.Kids, sameMark)
}

var (
	escaping   = strings.NewReplacer("&", "&amp;", "<", "&lt;", ">", "&gt;", "\"", "&quot;")
	unescaping = strings.NewReplacer("&amp;", "&", "&lt;", "<", "&gt;", ">", "&quot;", "\"")
	printable  = regexp.MustCompile(`^[ -~]*$`)
)

// unescapedIn is the document's rule told in another way: what looks like the
// text that escaped is s is so if it is s again, escaped.
func unescapedIn(s string) (string, bool) {
	plain := unescaping.Replace(s)
	if escaping.Replace(plain) != s {
		return "", false
	}
	return plain, true
}

// isMark is the document's rule: first that of each mark alone, of all of them,
// then how many these are. A mark must not hold itself.
func isMark(m impl.Mark) bool {
	all, right := []impl.Mark{m}, true
	for at := 0; at < len(all); at++ {
		x := all[at]
		all = append(all, x.Kids...)
		text := x.Tag == "" && x.Text != "" && len(x.Text) <= 12 && printable.MatchString(x.Text) && len(x.Attrs)+len(x.Kids) == 0
		tag := isName(x.Tag) && x.Text == "" && len(x.Attrs) <= 4
		for i, a := range x.Attrs {
			tag = tag && isName(a.Name) && len(a.Value) <= 10 && printable.MatchString(a.Value) && (i == 0 || x.Attrs[i-1].Name < a.Name)
		}
		for i := 1; i < len(x.Kids); i++ {
			tag = tag && (x.Kids[i-1].Tag != "" || x.Kids[i].Tag != "")
		}
		right = right && (text || tag)
	}
	return right && len(all) <= 30
}

var (
	openTag  = regexp.MustCompile(`^<([a-z]+)((?: [a-z]+="[^"]*")*)>`)
	attrIn   = regexp.MustCompile(` ([a-z]+)="([^"]*)"`)
	closeTag = regexp.MustCompile(`^</([a-z]+)>`)
	wordsIn  = regexp.MustCompile(`^[^<]+`)
)

// markIn tells anew what mark a text is of: open ones are piled up, and each one
// that is done goes to the kids of the one below it.
func markIn(s string) (impl.Mark, bool) {
	if len(s) > 5000 {
		return impl.Mark{}, false
	}
	open := []impl.Mark{{}} // at the bottom one whose only kid is to be the answer
	put := func(m impl.Mark) {
		last := &open[len(open)-1]
		last.Kids = append(last.Kids, m)
	}
	for s != "" {
		size := 0
		if m := openTag.FindStringSubmatch(s); m != nil {
			next := impl.Mark{Tag: m[1]}
			for _, a := range attrIn.FindAllStringSubmatch(m[2], -1) {
				value, ok := unescapedIn(a[2])
				if !ok {
					return impl.Mark{}, false
				}
				next.Attrs = append(next.Attrs, impl.Attr{Name: a[1], Value: value})
			}
			open = append(open, next)
			size = len(m[0])
		} else if m := closeTag.FindStringSubmatch(s); m != nil && open[len(open)-1].Tag == m[1] {
			done := open[len(open)-1]
			open = open[:len(open)-1]
			put(done)
			size = len(m[0])
		} else if m := wordsIn.FindString(s); m != "" {
			text, ok := unescapedIn(m)
			if !ok {
				return impl.Mark{}, false
			}
			put(words(text))
			size = len(m)
		} else {
			return impl.Mark{}, false
		}
		s = s[size:]
	}
	if len(open) != 1 || len(open[0].Kids) != 1 || !isMark(open[0].Kids[0]) {
		return impl.Mark{}, false
	}
	return open[0].Kids[0], true
}

// asksMarkText holds what ReadMark says of s against the rule above.
func asksMarkText(t *testing.T, s string) bool {
	t.Helper()
	want, is := markIn(s)
	got, ok := impl.ReadMark(s)
	if ok != is || !sameMark(got, want) {
		t.Fatalf("ReadMark(%q): %+v %v, want %+v %v", s, got, ok, want, is)
	}
	if ok && (impl.MarkText(got) != s || !impl.MarkOk(got)) {
		t.Fatalf("ReadMark(%q) has the text %q", s, impl.MarkText(got))
	}
	return ok
}

// noMarkText asks for the answer that is fixed for what is no mark's text.
func noMarkText(t *testing.T, s string) {
	t.Helper()
	if m, ok := impl.ReadMark(s); ok || !sameMark(m, impl.Mark{}) {
		t.Errorf("%q: %+v %v", s, m, ok)
	}
}

var anyMarkTag = regexp.MustCompile(`<[^>]*>`)

// asksMark asks all that is told of a right mark; promise 8 is here.
func asksMark(t *testing.T, m impl.Mark) {
	t.Helper()
	if !isMark(m) || !impl.MarkOk(m) {
		t.Fatalf("%+v: right %v, MarkOk %v", m, isMark(m), impl.MarkOk(m))
	}
	s := impl.MarkText(m)
	got, ok := impl.ReadMark(s)
	if len(s) <= 5000 && (!ok || !sameMark(got, m)) {
		t.Fatalf("%+v: %q: %+v %v", m, s, got, ok)
	}
	if len(s) > 5000 && (ok || !sameMark(got, impl.Mark{})) {
		t.Fatalf("%d bytes: %v", len(s), got)
	}
	between := unescaping.Replace(anyMarkTag.ReplaceAllString(s, ""))
	if impl.TextIn(m) != between {
		t.Fatalf("%q: the text in it is %q, want %q", s, impl.TextIn(m), between)
	}
	bare, ok := impl.Bare(m)
	tags := attrIn.ReplaceAllString(strings.Join(anyMarkTag.FindAllString(s, -1), ""), "")
	if ok != (m.Tag != "") || impl.TreeText(bare) != tags || !ok && !sameTree(bare, impl.Tree{}) {
		t.Fatalf("%q: bare %v %v, want %q", s, bare, ok, tags)
	}
}

// noMark asks for the answers that are fixed for what is not right.
func noMark(t *testing.T, what string, m impl.Mark) {
	t.Helper()
	if impl.MarkOk(m) {
		t.Error(what, "is right")
	}
	if s := impl.MarkText(m); s != "" {
		t.Errorf("%s has the text %q", what, s)
	}
	if s := impl.TextIn(m); s != "" {
		t.Errorf("in %s is %q", what, s)
	}
	if bare, ok := impl.Bare(m); ok || !sameTree(bare, impl.Tree{}) {
		t.Error(what, "is bare", bare)
	}
}

func TestConstantsOfMarkup(t *testing.T) {
	if impl.MaxAttrs != 4 || impl.MaxValue != 10 || impl.MaxWords != 12 {
		t.Error(impl.MaxAttrs, impl.MaxValue, impl.MaxWords)
	}
}

func TestEscapedBytes(t *testing.T) {
	signs := map[byte]string{'&': "&amp;", '<': "&lt;", '>': "&gt;", '"': "&quot;"}
	for c := range 256 {
		one := string([]byte{byte(c)})
		want := one
		if sign, ok := signs[byte(c)]; ok {
			want = sign
		}
		for _, around := range []string{"", "a", "&", "\xff", "é"} {
			s := around + one + around
			if got := impl.Escaped(s); got != escaping.Replace(around)+want+escaping.Replace(around) {
				t.Errorf("%q: %q", s, got)
			}
			if got, ok := impl.Unescaped(impl.Escaped(s)); !ok || got != s {
				t.Errorf("%q: %q %v", s, got, ok)
			}
		}
		if got, ok := impl.Unescaped(one); ok != (want == one) || ok && got != one || !ok && got != "" {
			t.Errorf("bare %q: %q %v", one, got, ok)
		}
	}
}

func TestEscapedByHand(t *testing.T) {
	for plain, want := range map[string]string{
		"":                 "",
		"a b":              "a b",
		"a<b>&\"c":         "a&lt;b&gt;&amp;&quot;c",
		"&amp;":            "&amp;amp;",
		"&lt;":             "&amp;lt;",
		"&&":               "&amp;&amp;",
		"'":                "'",
		"<p class=\"x\">":  "&lt;p class=&quot;x&quot;&gt;",
		"\n\x00é\xff":      "\n\x00é\xff",
		";amp;":            ";amp;",
		"&#38;":            "&amp;#38;",
		"\"\"<<>>":         "&quot;&quot;&lt;&lt;&gt;&gt;",
		"&quot;&amp;&&lt;": "&amp;quot;&amp;amp;&amp;&amp;lt;",
	} {
		if got := impl.Escaped(plain); got != want {
			t.Errorf("%q: %q, want %q", plain, got, want)
		}
		if got, ok := impl.Unescaped(want); !ok || got != plain {
			t.Errorf("%q: %q %v, want %q", want, got, ok, plain)
		}
	}
}

func TestNoEscapedTexts(t *testing.T) {
	for _, s := range []string{
		"&", "a&", "&a", "a&b", "& ", "&&", "&amp", "&amp;&", "&&amp;", "&am", "&am;", "&;", "&x;", "&ampamp;", "&ampx;", "&amp ;", "& amp;",
		"&AMP;", "&Amp;", "&LT;", "&apos;", "&nbsp;", "&#38;", "&#x26;", "&l", "&lt", "&ltx", "&gt", "&g;", "&quot", "&quo;", "&quote;", "&qu&ot;",
		"<", ">", "\"", "a<b", "a>b", "a\"b", "&lt;<", ">&gt;", "&quot;\"", "&<amp;", "&lt;&", "\"&quot;", "&amp;lt;&lt", "&am\x00p;",
	} {
		if _, is := unescapedIn(s); is {
			t.Fatalf("%q is one", s)
		}
		if got, ok := impl.Unescaped(s); ok || got != "" {
			t.Errorf("%q: %q %v", s, got, ok)
		}
	}
}

// Every text of few of these pieces.
func TestAllShortEscapes(t *testing.T) {
	pieces := []string{"&", ";", "amp", "lt", "g", "t;", "quot;", "<", ">", "\"", "x", "&lt;", "\xff"}
	right, wrong := 0, 0
	var grow func(s string, left int)
	grow = func(s string, left int) {
		want, is := unescapedIn(s)
		got, ok := impl.Unescaped(s)
		if ok != is || got != want {
			t.Fatalf("%q: %q %v, want %q %v", s, got, ok, want, is)
		}
		if ok {
			right++
		} else {
			wrong++
		}
		if escaped := impl.Escaped(s); escaped != escaping.Replace(s) {
			t.Fatalf("%q: %q", s, escaped)
		} else if back, ok := impl.Unescaped(escaped); !ok || back != s {
			t.Fatalf("%q: %q: %q %v", s, escaped, back, ok)
		}
		if left == 0 {
			return
		}
		for _, p := range pieces {
			grow(s+p, left-1)
		}
	}
	grow("", 4)
	if right < 100 || wrong < 100 {
		t.Error("too much alike", right, wrong)
	}
}

func TestLongEscapes(t *testing.T) {
	defer endsSoon("long escapes")()
	for _, s := range []string{strings.Repeat("&", 1<<20), strings.Repeat("a<\"", 1<<19), strings.Repeat("\xff", 1<<20), strings.Repeat("&amp;", 1<<18)} {
		escaped := impl.Escaped(s)
		if escaped != escaping.Replace(s) {
			t.Error("escaped", s[:3])
		}
		if got, ok := impl.Unescaped(escaped); !ok || got != s {
			t.Error("unescaped", s[:3])
		}
		for _, bad := range []string{escaped + "&", "<" + escaped, escaped + "\"" + escaped} {
			if got, ok := impl.Unescaped(bad); ok || got != "" {
				t.Error("one bare sign", s[:3])
			}
		}
	}
}

func TestMarksByHand(t *testing.T) {
	for want, m := range map[string]impl.Mark{
		"hi":                       words("hi"),
		" ":                        words(" "),
		"~":                        words("~"),
		"&lt;p&gt;&lt;/p&gt;":      words("<p></p>"),
		"a=&quot;&amp;amp;&quot;":  words("a=\"&amp;\""),
		"<a></a>":                  tagged("a"),
		"<abcdef></abcdef>":        tagged("abcdef"),
		"<p>x</p>":                 tagged("p", words("x")),
		"<p> <a></a> </p>":         tagged("p", words(" "), tagged("a"), words(" ")),
		"<p><a>x</a>y<b>z</b></p>": tagged("p", tagged("a", words("x")), words("y"), tagged("b", words("z"))),
		"<p><a>x</a><b>y</b></p>":  tagged("p", tagged("a", words("x")), tagged("b", words("y"))),
		"<p a=\"\"></p>":           withAttrs(tagged("p"), "a", ""),
		"<p a=\"1\" b=\"2\"></p>":  withAttrs(tagged("p"), "a", "1", "b", "2"),
		"<p a=\" \" ab=\"a=&quot;&gt;&quot;\" b=\"/\">&gt;</p>": withAttrs(tagged("p", words(">")), "a", " ", "ab", "a=\">\"", "b", "/"),
		"<p class=\"x&lt;y\">hi<a></a>&amp;</p>":                withAttrs(tagged("p", words("hi"), tagged("a"), words("&")), "class", "x<y"),
		"<p p=\"p\"><p p=\"p\">p</p>p</p>":                      withAttrs(tagged("p", withAttrs(tagged("p", words("p")), "p", "p"), words("p")), "p", "p"),
	} {
		asksMark(t, m)
		if got := impl.MarkText(m); got != want {
			t.Errorf("%q, want %q", got, want)
		}
		asksMarkText(t, want)
	}
}

func TestTextAndTagsByHand(t *testing.T) {
	for _, c := range []struct {
		mark impl.Mark
		text string
		tree string
	}{
		{words("a<b"), "a<b", ""},
		{tagged("p"), "", "<p></p>"},
		{tagged("p", words("<a>"), tagged("a"), words("&amp;")), "<a>&amp;", "<p><a></a></p>"},
		{tagged("p", tagged("a", words("1"), tagged("b", words("2")), words("3")), words("4"), tagged("c"), words("5")), "12345", "<p><a><b></b></a><c></c></p>"},
		{withAttrs(tagged("p", withAttrs(tagged("a"), "x", "no")), "a", "no", "b", "<q></q>"), "", "<p><a></a></p>"},
	} {
		asksMark(t, c.mark)
		if got := impl.TextIn(c.mark); got != c.text {
			t.Errorf("%+v: %q", c.mark, got)
		}
		if got, ok := impl.Bare(c.mark); ok != (c.tree != "") || impl.TreeText(got) != c.tree {
			t.Errorf("%+v: %v %v", c.mark, got, ok)
		}
	}
}

// The limits are met by the first of each pair, and passed by one by the second.
func TestLimitsOfMarks(t *testing.T) {
	below := func(n int) impl.Mark { // n nodes, every other one a text
		m := tagged("p")
		for i := range n - 1 {
			if i%2 == 0 {
				m.Kids = append(m.Kids, words("x"))
			} else {
				m.Kids = append(m.Kids, tagged("a"))
			}
		}
		return m
	}
	attrs := []string{"a", "", "b", "", "c", "", "d", ""}
	for what, c := range map[string]struct{ met, past impl.Mark }{
		"Text":                {words("123456789012"), words("1234567890123")},
		"Text of signs":       {words(strings.Repeat("\"", 12)), words(strings.Repeat("\"", 13))},
		"Text below":          {tagged("p", words("123456789012")), tagged("p", words("1234567890123"))},
		"an empty Text":       {words("x"), words("")},
		"Value":               {withAttrs(tagged("p"), "a", "1234567890"), withAttrs(tagged("p"), "a", "12345678901")},
		"Value of signs":      {withAttrs(tagged("p"), "a", strings.Repeat("&", 10)), withAttrs(tagged("p"), "a", strings.Repeat("&", 11))},
		"attributes":          {withAttrs(tagged("p"), attrs...), withAttrs(tagged("p"), append(attrs, "e", "")...)},
		"Tag":                 {tagged("abcdef"), tagged("abcdefg")},
		"an attribute's name": {withAttrs(tagged("p"), "abcdef", ""), withAttrs(tagged("p"), "abcdefg", "")},
		"nodes":               {below(30), below(31)},
		"nodes, one above":    {tagged("p", below(29)), tagged("p", below(30))},
		"nodes, deep":         {markOf(chain("a", 30)), markOf(chain("a", 31))},
		"nodes, wide":         {markOf(star("a", 30)), markOf(star("a", 31))},
		"nodes, both":         {markOf(comb("a", 30)), markOf(comb("a", 31))},
		"a text is a node":    {tagged("p", words("x"), markOf(chain("a", 28))), tagged("p", words("x"), markOf(chain("a", 29)))},
		"a text at the end":   {tagged("p", markOf(star("a", 28)), words("x")), tagged("p", markOf(star("a", 29)), words("x"))},
	} {
		asksMark(t, c.met)
		if isMark(c.past) {
			t.Error(what, "is not passed")
		}
		noMark(t, what, c.past)
		asksMarkText(t, rawText(c.met))
		noMarkText(t, rawText(c.past))
	}
}

// rawText is the text that m would have, right or not.
func rawText(m impl.Mark) string {
	if m.Tag == "" {
		return escaping.Replace(m.Text)
	}
	s := "<" + m.Tag
	for _, a := range m.Attrs {
		s += " " + a.Name + "=\"" + escaping.Replace(a.Value) + "\""
	}
	s += ">"
	for _, kid := range m.Kids {
		s += rawText(kid)
	}
	return s + "</" + m.Tag + ">"
}

// Every byte at every place of a text and of a value.
func TestBytesOfMarks(t *testing.T) {
	for c := range 256 {
		for n := 1; n <= 12; n++ {
			for at := range n {
				s := []byte("abcdefghijkl")[:n]
				s[at] = byte(c)
				marks := []impl.Mark{words(string(s)), tagged("p", words(string(s)), tagged("a"))}
				if n <= 10 {
					marks = append(marks, withAttrs(tagged("p"), "a", string(s)), tagged("p", withAttrs(tagged("a"), "a", "", "b", string(s))))
				}
				for _, m := range marks {
					if 32 <= c && c <= 126 {
						asksMark(t, m)
					} else {
						noMark(t, fmt.Sprint("byte ", c), m)
						noMarkText(t, rawText(m))
					}
				}
			}
		}
	}
}

// marksNotRight breaks one clause a row.
func marksNotRight() map[string]impl.Mark {
	long := impl.Mark{Tag: "p"}
	for i := range 5 {
		long.Attrs = append(long.Attrs, impl.Attr{Name: string(rune('a' + i))})
	}
	return map[string]impl.Mark{
		"nothing at all":                    {},
		"a text with an attribute":          withAttrs(words("x"), "a", "b"),
		"a text with a kid":                 {Text: "x", Kids: []impl.Mark{tagged("a")}},
		"a text with a text":                {Text: "x", Kids: []impl.Mark{words("y")}},
		"an empty text with a kid":          {Kids: []impl.Mark{tagged("a")}},
		"an empty text with an attribute":   withAttrs(impl.Mark{}, "a", ""),
		"a text with a Tag":                 {Tag: "p", Text: "x"},
		"a blank with a Tag":                {Tag: "p", Text: " "},
		"a Tag that is no name":             tagged("P"),
		"a Tag with a digit":                tagged("h1"),
		"a blank Tag":                       tagged(" "),
		"a Tag of other letters":            tagged("é"),
		"a Tag that is no name, and a Text": {Tag: "P", Text: "x"},
		"attributes fall":                   withAttrs(tagged("p"), "b", "", "a", ""),
		"attributes fall at last":           withAttrs(tagged("p"), "a", "", "c", "", "b", ""),
		"an attribute twice":                withAttrs(tagged("p"), "a", "1", "a", "2"),
		"the same attribute twice":          withAttrs(tagged("p"), "a", "", "a", ""),
		"attributes by length":              withAttrs(tagged("p"), "b", "", "aa", ""),
		"an attribute without a name":       withAttrs(tagged("p"), "", "x"),
		"one without a name ahead":          withAttrs(tagged("p"), "", "x", "a", "y"),
		"an attribute that is no name":      withAttrs(tagged("p"), "A", "x"),
		"the second one is no name":         withAttrs(tagged("p"), "a", "x", "b-c", "x"),
		"five attributes":                   long,
		"two texts side by side":            tagged("p", words("a"), words("b")),
		"two texts at the end":              tagged("p", tagged("a"), words("a"), words("b")),
		"two texts at the beginning":        tagged("p", words("a"), words("a"), tagged("a")),
		"three texts":                       tagged("p", words("a"), words("b"), words("c")),
		"two blanks":                        tagged("p", words(" "), words(" ")),
		"an empty text between two":         tagged("p", words("a"), words(""), words("b")),
		"an empty text":                     tagged("p", words("")),
	}
}

func TestClausesOfMarks(t *testing.T) {
	for what, m := range marksNotRight() {
		if isMark(m) {
			t.Error(what, "is right")
		}
		for _, in := range []impl.Mark{
			m, tagged("a", m), tagged("a", tagged("b"), m), tagged("a", m, tagged("b")), tagged("a", tagged("b", tagged("c"), m), words("x")), tagged("a", tagged("b", words("x")), m),
			withAttrs(tagged("a", m), "a", "b"),
		} {
			noMark(t, what, in)
		}
		s := rawText(m) // may be the text of another one, that is right
		asksMarkText(t, s)
		asksMarkText(t, "<a>"+s+"</a>")
		asksMarkText(t, "<a>x"+s+"x</a>")
	}
}

// Texts that are not side by side: a tag between them, or one in another node.
func TestTextsNotSideBySide(t *testing.T) {
	for _, m := range []impl.Mark{
		tagged("p", words("a"), tagged("b"), words("c")),
		tagged("p", words("a"), tagged("b", words("c")), words("d")),
		tagged("p", tagged("b", words("c")), words("d")),
		tagged("p", words("a"), tagged("b", words("c"))),
		tagged("p", words("a"), tagged("b"), words("c"), tagged("d"), words("e")),
	} {
		asksMark(t, m)
	}
	// What looks like two texts is read as one, if it is not too long for one.
	got, ok := impl.ReadMark("<p>" + impl.Escaped("a<") + impl.Escaped("b") + "</p>")
	if !ok || !sameMark(got, tagged("p", words("a<b"))) {
		t.Error(got, ok)
	}
	noMarkText(t, "<p>"+strings.Repeat("a", 6)+strings.Repeat("b", 7)+"</p>")
}

// A list of kids can hold itself, or one list can stand in many places.
func TestMarksWithoutEnd(t *testing.T) {
	defer endsSoon("marks without end")()
	self := make([]impl.Mark, 1)
	self[0] = impl.Mark{Tag: "a", Kids: self}
	twice := make([]impl.Mark, 3)
	twice[0], twice[1], twice[2] = impl.Mark{Tag: "a", Kids: twice}, words("x"), impl.Mark{Tag: "b", Kids: twice}
	shared := tagged("a")
	for range 100 {
		shared = tagged("a", shared, words("x"), shared)
	}
	text := impl.Mark{Text: "x"}
	text.Kids = self
	for what, m := range map[string]impl.Mark{
		"self": self[0], "twice": twice[0], "shared": shared, "wide": markOf(star("a", 1<<16)), "deep": markOf(chain("a", 1<<16)), "a text that holds": text,
		"a long text": words(strings.Repeat("x", 1<<20)), "a long tag": tagged(strings.Repeat("x", 1<<20)),
		"a long value":    withAttrs(tagged("p"), "a", strings.Repeat("x", 1<<20)),
		"many attributes": {Tag: "p", Attrs: make([]impl.Attr, 1<<20)},
		"many texts":      {Tag: "p", Kids: make([]impl.Mark, 1<<20)},
	} {
		noMark(t, what, m)
	}
	pair := tagged("b", words("x"))
	for range 3 {
		pair = tagged("a", pair, pair)
	}
	asksMark(t, pair)
}

// someMarks are all marks of few nodes, with some attributes.
func someMarks() []impl.Mark {
	leaves := []impl.Mark{words("x"), words("<\""), tagged("a"), withAttrs(tagged("b"), "a", "&"), withAttrs(tagged("a"), "b", "", "c", ">x")}
	all := slices.Clone(leaves)
	var lists [][]impl.Mark
	for _, a := range leaves {
		lists = append(lists, []impl.Mark{a})
		for _, b := range leaves {
			lists = append(lists, []impl.Mark{a, b})
			for _, c := range leaves {
				lists = append(lists, []impl.Mark{a, b, c})
			}
		}
	}
	for _, kids := range lists {
		for _, m := range leaves[2:] {
			m.Kids = kids
			all = append(all, m)
			if len(kids) < 3 {
				all = append(all, tagged("p", m, words("y")), tagged("p", words("y"), m, m))
			}
		}
	}
	return all
}

func TestFewMarks(t *testing.T) {
	right, wrong, texts := 0, 0, map[string]impl.Mark{}
	for _, m := range someMarks() {
		if !isMark(m) {
			wrong++
			noMark(t, fmt.Sprint(m), m)
			continue
		}
		right++
		asksMark(t, m)
		s := impl.MarkText(m)
		if other, there := texts[s]; there && !sameMark(other, m) {
			t.Fatalf("%q is the text of two: %+v %+v", s, other, m)
		}
		texts[s] = m
	}
	if right < 200 || wrong < 100 {
		t.Error("too much alike", right, wrong)
	}
}

func randomMark(r *rand.Rand, room *int) impl.Mark {
	bytesOf := func(least, most int) string {
		s := make([]byte, least+r.Intn(most-least+1))
		for i := range s {
			s[i] = byte(32 + r.Intn(95))
			if r.Intn(3) == 0 {
				s[i] = "&<>\" /=;"[r.Intn(8)]
			}
		}
		return string(s)
	}
	*room--
	m := impl.Mark{Tag: "abcdef"[r.Intn(3) : 3+r.Intn(4)]}
	for _, name := range []string{"a", "ab", "href", "id", "zzzzzz"} {
		if r.Intn(2) == 0 && len(m.Attrs) < 4 {
			m.Attrs = append(m.Attrs, impl.Attr{Name: name, Value: bytesOf(0, 10)})
		}
	}
	for *room > 0 && r.Intn(4) > 0 {
		if n := len(m.Kids); r.Intn(2) == 0 && (n == 0 || m.Kids[n-1].Tag != "") {
			*room--
			m.Kids = append(m.Kids, words(bytesOf(1, 12)))
		} else {
			m.Kids = append(m.Kids, randomMark(r, room))
		}
	}
	return m
}

func TestRandomMarks(t *testing.T) {
	r := rand.New(rand.NewSource(8))
	bytes := []byte("<>/\"=& ;aZ\x1f\x7f")
	most, changed := 0, 0
	for i := range 4000 {
		room := 1 + r.Intn(30)
		m := randomMark(r, &room)
		asksMark(t, m)
		s := impl.MarkText(m)
		most = max(most, len(s))
		if i%8 == 0 {
			for range 30 {
				at := r.Intn(len(s))
				if asksMarkText(t, s[:at]+string(bytes[r.Intn(len(bytes))])+s[at+r.Intn(2):]) {
					changed++
				}
			}
		}
	}
	if most < 1000 || changed < 100 {
		t.Error("too much alike", most, changed)
	}
}

func TestNoMarkTexts(t *testing.T) {
	for _, s := range []string{
		"", "<", ">", "\"", "&", "a<", "a>", "a\"b", "a&b", "&amp", "&x;", "\n", "a\tb", "é", "1234567890123",
		"<p>", "<p", "</p>", "<p></p", "<p></p>x", "x<p></p>", "<p></p> ", " <p></p>", "<p></p><p></p>", "<p></b>", "<p></P>", "<P></P>", "<></>", "<p/>", "<p></>", "<abcdefg></abcdefg>", "<p><a></p></a>", "<p><a></p>", "<p></a></p>",
		"<p>a&b</p>", "<p>a>b</p>", "<p>a\"b</p>", "<p>a<b</p>", "<p>&lt</p>", "<p>&apos;</p>", "<p>1234567890123</p>", "<p>\n</p>", "<p>é</p>", "<p>x", "<p>x<a></a>",
		"<p class=x></p>", "<p class='x'></p>", "<p class></p>", "<p class=></p>", "<p class=\"></p>", "<p class=\"x></p>", "<p class=x\"></p>", "<p class\"x\"></p>", "<p =\"x\"></p>", "<p \"x\"></p>",
		"<p  a=\"1\"></p>", "<p a=\"1\" ></p>", "<p ></p>", "< p></p>", "<p a =\"1\"></p>", "<p a= \"1\"></p>", "<p a=\"1\"b=\"2\"></p>", "<p a=\"1\"  b=\"2\"></p>", "<p\ta=\"1\"></p>", "<pa=\"1\"></p>", "<p a=\"1\"\"></p>",
		"<p b=\"1\" a=\"2\"></p>", "<p a=\"1\" a=\"2\"></p>", "<p A=\"1\"></p>", "<p a1=\"1\"></p>", "<p abcdefg=\"1\"></p>", "<p a=\"12345678901\"></p>", "<p a=\"&\"></p>", "<p a=\"<\"></p>", "<p a=\">\"></p>", "<p a=\"&x;\"></p>", "<p a=\"é\"></p>", "<p a=\"\n\"></p>",
		"<p a=\"\" b=\"\" c=\"\" d=\"\" e=\"\"></p>", "<p></p a=\"1\">", "<p a=\"1\"></p a=\"1\">", "<p></p >", "<p>< /p>", "<!p></!p>", "<!-- x -->", "<p><!-- x --></p>", "<p a=\"1\"/>", "<p a=\"1\"", "<p a=\"1\">",
	} {
		if _, is := markIn(s); is {
			t.Fatalf("%q is one", s)
		}
		noMarkText(t, s)
	}
}

func TestMarkTextsCutShort(t *testing.T) {
	whole := 0
	for _, m := range someMarks() {
		s := impl.MarkText(m)
		for n := range len(s) {
			if m.Tag != "" {
				noMarkText(t, s[:n])
			}
			if asksMarkText(t, s[n:]) {
				whole++
			}
		}
	}
	if whole == 0 {
		t.Error("none")
	}
}

func TestMarkTextsChangedAtOnePlace(t *testing.T) {
	bytes := []byte("<>/\"=& ;ab`{A\x00\x1f\x7f\xff")
	right := 0
	for _, s := range []string{
		"hi", "&lt;", "<a></a>", "<p>x</p>", "<p a=\"\"></p>", "<p a=\"1\" b=\"&amp;\">x<b></b>&gt;</p>", "<ab><a>&quot;</a><b></b>y</ab>", "<a b=\"1234567890\">123456789012</a>",
	} {
		asksMarkText(t, s)
		for i := range len(s) + 1 {
			for _, c := range bytes {
				for _, changed := range []string{s[:i] + string([]byte{c}) + s[i:], s[:i] + string([]byte{c}) + s[min(i+1, len(s)):]} {
					if asksMarkText(t, changed) {
						right++
					}
				}
			}
			for j := i; j <= len(s); j++ {
				asksMarkText(t, s[:i]+s[j:])
				asksMarkText(t, s[:j]+s[i:])
			}
		}
	}
	if right < 50 {
		t.Error("few are right", right)
	}
}

// Every text of up to 6 of these pieces.
func TestAllShortMarkTexts(t *testing.T) {
	pieces := []string{"<", ">", "</", "a", " a=\"", "\"", "&lt;", "<a", "</a>"}
	found := map[string]bool{}
	var grow func(s string, left int)
	grow = func(s string, left int) {
		if asksMarkText(t, s) {
			found[s] = true
		}
		if left == 0 {
			return
		}
		for _, p := range pieces {
			grow(s+p, left-1)
		}
	}
	grow("", 6)
	for _, s := range []string{"a", "&lt;", "<a></a>", "<a>a</a>", "<a a=\"\"></a>", "<a a=\"a\"></a>", "<a a=\"&lt;\"></a>", "<a><a></a></a>"} {
		if !found[s] {
			t.Errorf("%q is not among them", s)
		}
	}
}

// greatMark has 30 nodes and the longest text there is.
func greatMark() impl.Mark {
	value := strings.Repeat("\"", 10)
	one := withAttrs(tagged("abcdef"), "aaaaaa", value, "bbbbbb", value, "cccccc", value, "dddddd", value)
	m := one
	for range 29 {
		m.Kids = append(m.Kids, withAttrs(one, "aaaaaa", value, "bbbbbb", value, "cccccc", value, "dddddd", value))
	}
	return m
}

// shortened puts other bytes for the signs in it, until its text has n bytes: x
// is 5 bytes shorter than what stands for ", & is one byte shorter.
func shortened(m impl.Mark, n int) impl.Mark {
	over := len(rawText(m)) - n
	for i := range m.Kids {
		for j := range m.Kids[i].Attrs {
			value := []byte(m.Kids[i].Attrs[j].Value)
			for k := range value {
				if over >= 5 {
					value[k] = 'x'
					over -= 5
				} else if over > 0 {
					value[k] = '&'
					over--
				}
			}
			m.Kids[i].Attrs[j].Value = string(value)
		}
	}
	return m
}

func TestLengthsOfMarkTexts(t *testing.T) {
	longest := greatMark()
	asksMark(t, longest)
	if got := len(impl.MarkText(longest)); got != 8910 {
		t.Error(got)
	}
	for _, n := range []int{4000, 4990, 4998, 4999, 5000, 5001, 5002, 5010, 8909} {
		m := shortened(greatMark(), n)
		asksMark(t, m)
		s := impl.MarkText(m)
		if len(s) != n {
			t.Fatal(len(s), n)
		}
		got, ok := impl.ReadMark(s)
		if ok != (n <= 5000) || ok && !sameMark(got, m) || !ok && !sameMark(got, impl.Mark{}) {
			t.Error(n, ok)
		}
		asksMarkText(t, s[:n-1]+"x")
		asksMarkText(t, "x"+s[1:])
	}
	defer endsSoon("long texts of marks")()
	for _, n := range []int{4998, 4999, 5000, 5001, 1 << 20} {
		for _, piece := range []string{"a", "<", "<a>", "<a></a>", "<a ", "&lt;", "<a a=\"", " a=\"\"", "<a>x", "&", "<p>"} {
			noMarkText(t, strings.Repeat(piece, n)[:n])
			noMarkText(t, "<p"+strings.Repeat(piece, n)[:n-7]+"></p>")
			noMarkText(t, "<p>"+strings.Repeat(piece, n)[:n-7]+"</p>")
		}
	}
}

func TestTreesAsMarks(t *testing.T) {
	for _, x := range someTrees() {
		m := markOf(x)
		asksMark(t, m)
		if s := impl.MarkText(m); s != impl.TreeText(x) {
			t.Fatalf("%v: %q", x, s)
		}
		if bare, ok := impl.Bare(m); !ok || !sameTree(bare, x) {
			t.Fatalf("%v: %v %v", x, bare, ok)
		}
		if impl.TextIn(m) != "" {
			t.Fatal(x)
		}
	}
}

func sparedMark(m impl.Mark) impl.Mark {
	m.Attrs = withRoom(m.Attrs, impl.Attr{Name: "spare", Value: "room"})
	m.Kids = withRoom(m.Kids, words("spare"))
	for i := range m.Kids {
		m.Kids[i] = sparedMark(m.Kids[i])
	}
	return m
}

// shownMark tells a mark with the room behind its lists.
func shownMark(m impl.Mark) string {
	s := fmt.Sprintf("%q %q %d %d %q", m.Tag, m.Text, len(m.Attrs), len(m.Kids), m.Attrs[:cap(m.Attrs)])
	for _, kid := range m.Kids[:cap(m.Kids)] {
		s += "(" + shownMark(kid) + ")"
	}
	return s
}

// Promise 17, of all that is told of marks.
func TestMarksStayAsTheyAre(t *testing.T) {
	all := append(someMarks(), greatMark(), impl.Mark{}, markOf(chain("a", 31)))
	for _, x := range all {
		m := sparedMark(x)
		was := shownMark(m)
		told := func() []any {
			bare, ok := impl.Bare(m)
			return []any{impl.MarkOk(m), impl.MarkText(m), impl.TextIn(m), bare, ok}
		}
		one, two := told(), told()
		if !reflect.DeepEqual(one, two) {
			t.Fatalf("%+v: not the same answers", x)
		}
		sharesNothing(t, append(one, two...), []any{m})
		if shownMark(m) != was {
			t.Fatalf("%+v: written into", x)
		}
		s := impl.MarkText(m)
		got, ok := impl.ReadMark(s)
		again, ok2 := impl.ReadMark(s)
		if ok != ok2 || !reflect.DeepEqual(got, again) {
			t.Fatalf("%q: not the same answers", s)
		}
		sharesNothing(t, []any{got, again}, []any{m})
	}
}
