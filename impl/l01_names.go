package impl

import "strings"

const (
	MaxName = 6
	MaxTree = 30
)

const maxTreeText = 1000

type Tree struct {
	Tag  string
	Kids []Tree
}

func NameOk(s string) bool {
	if len(s) < 1 || len(s) > MaxName {
		return false
	}
	for i := range len(s) {
		if !isLetter(s[i]) {
			return false
		}
	}
	return true
}

func isLetter(c byte) bool { return 'a' <= c && c <= 'z' }

func TreeOk(t Tree) bool {
	_, ok := sizeWithin(t, MaxTree)
	return ok
}

func SizeOf(t Tree) int64 {
	size, ok := sizeWithin(t, MaxTree)
	if !ok {
		return -1
	}
	return size
}

// sizeWithin stops at the first node for which there is no room: a list of
// kids can hold itself, and counting such a tree to its end would never end.
func sizeWithin(t Tree, room int64) (int64, bool) {
	if room < 1 || !NameOk(t.Tag) {
		return 0, false
	}
	size := int64(1)
	for _, kid := range t.Kids {
		n, ok := sizeWithin(kid, room-size)
		if !ok {
			return 0, false
		}
		size += n
	}
	return size, true
}

func TreeText(t Tree) string {
	if !TreeOk(t) {
		return ""
	}
	return string(appendTree(nil, t))
}

func appendTree(text []byte, t Tree) []byte {
	text = append(text, "<"+t.Tag+">"...)
	for _, kid := range t.Kids {
		text = appendTree(text, kid)
	}
	return append(text, "</"+t.Tag+">"...)
}

func ReadTree(s string) (Tree, bool) {
	return readWhole(s, maxTreeText, treeFrom)
}

// readWhole names its results because the deferred function has to reach them:
// it is where a reader that gave up becomes false.
func readWhole[T any](s string, most int, read func(r *textReader) T) (whole T, ok bool) {
	if len(s) > most {
		return whole, false
	}
	defer func() {
		if recover() != nil {
			var none T
			whole, ok = none, false
		}
	}()
	r := textReader{text: s, room: MaxTree}
	whole = read(&r)
	r.end()
	return whole, true
}

func treeFrom(r *textReader) Tree {
	r.oneMore()
	r.take("<")
	t := Tree{Tag: r.name()}
	r.take(">")
	for !r.sees("</") {
		t.Kids = append(t.Kids, treeFrom(r))
	}
	r.take("</" + t.Tag + ">")
	return t
}

// textReader stands at a place of a text, with room for so many nodes more.
type textReader struct {
	text string
	at   int
	room int
}

// giveUp panics, so that a refusal far down needs no handing on through every
// step above it.
func (r *textReader) giveUp() { panic("this is no text of such a thing") }

// oneMore is asked ahead of each node, so that no text makes a reader go down
// deep, or go on at its end.
func (r *textReader) oneMore() {
	if r.room == 0 {
		r.giveUp()
	}
	r.room--
}

func (r *textReader) name() string {
	end := r.at
	for end < len(r.text) && isLetter(r.text[end]) {
		end++
	}
	name := r.text[r.at:end]
	if !NameOk(name) {
		r.giveUp()
	}
	r.at = end
	return name
}

func (r *textReader) sees(sign string) bool {
	return strings.HasPrefix(r.text[r.at:], sign)
}

func (r *textReader) take(sign string) {
	if !r.sees(sign) {
		r.giveUp()
	}
	r.at += len(sign)
}

func (r *textReader) end() {
	if r.at != len(r.text) {
		r.giveUp()
	}
}
