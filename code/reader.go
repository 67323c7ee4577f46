package code

import "ostracon/api"

// reader reads a text from the left to the right. It never goes past a byte
// with which no text can go on, so when it stops, at is the length of the
// longest beginning that the text has in common with some text of the grammar.
type reader struct {
	coding  coding
	text    string
	at      int
	numbers map[string]int
	// unknown is where the first code begins that is no sign of the list, or -1.
	unknown int
}

// stopped is what a reader panics with where the text goes on wrongly.
type stopped struct{}

func newReader(c coding, l api.List, s string) *reader {
	numbers := make(map[string]int, len(l.Signs))
	for i, sign := range l.Signs {
		numbers[sign.Code] = i
	}
	return &reader{coding: c, text: s, numbers: numbers, unknown: -1}
}

// attempt calls a function that reads, and reports whether it came to the end
// of the text without being stopped.
func (r *reader) attempt(read func()) (ok bool) {
	defer func() {
		if p := recover(); p != nil {
			if _, expected := p.(stopped); !expected {
				panic(p)
			}
		}
	}()
	read()
	if !r.ended() {
		r.stop()
	}
	return true
}

// readText reads groups in the code of the reader.
func (r *reader) readText() (t api.Text, ok bool) {
	var items []item
	ok = r.attempt(func() {
		if r.ended() {
			return
		}
		items = r.several(r.coding.between(), func() item { return r.coding.read(r) })
	})
	return api.Text{Nodes: list(nil, items, 0)}, ok
}

func (r *reader) stop() {
	panic(stopped{})
}

func (r *reader) ended() bool {
	return r.at == len(r.text)
}

// next returns the byte at which the reader is, and at the end of the text 0,
// which has no place in any text.
func (r *reader) next() byte {
	if r.ended() {
		return 0
	}
	return r.text[r.at]
}

// skip goes past a byte if it is the next one.
func (r *reader) skip(b byte) bool {
	if r.next() != b {
		return false
	}
	r.at++
	return true
}

// expect goes past some bytes.
func (r *reader) expect(s string) {
	for i := range len(s) {
		if !r.skip(s[i]) {
			r.stop()
		}
	}
}

// digit reads a digit that is not less than one and not greater than another.
func (r *reader) digit(least, most byte) int {
	b := r.next()
	if b < least || b > most {
		r.stop()
	}
	r.at++
	return int(b - '0')
}

// several reads items with a byte between two of them.
func (r *reader) several(between byte, read func() item) []item {
	items := []item{read()}
	for r.skip(between) {
		items = append(items, read())
	}
	return items
}

func (r *reader) glyph() item {
	n := api.Node{Kind: api.Glyph, Sign: r.sign()}
	n.Mirror = r.skip('\\')
	if r.skip('/') {
		n.Turn = r.digit('1', '3')
	}
	switch r.coding.(type) {
	case lineCode:
		n.State = r.state()
	}
	return item{node: n}
}

// sign reads the code of a sign and returns its number, which means nothing if
// the list has no such sign.
func (r *reader) sign() int {
	from := r.at
	if !isCapital(r.next()) {
		r.stop()
	}
	for r.at-from < api.MaxCode && isCodeByte(r.next()) {
		r.at++
	}
	number, ok := r.numbers[r.text[from:r.at]]
	if !ok && r.unknown < 0 {
		r.unknown = from
	}
	return number
}

func (r *reader) state() int {
	for state := api.Damaged; state <= api.Usurped; state++ {
		if r.skip(stateMarks[state][0]) {
			return state
		}
	}
	return api.Whole
}

// word reads a word of the tree code and returns its kind. No two words begin
// with the same letter.
func (r *reader) word() int {
	for kind, w := range words {
		if w != "" && w[0] == r.next() {
			r.expect(w)
			return kind
		}
	}
	r.stop()
	return 0
}

func isCapital(b byte) bool {
	return 'A' <= b && b <= 'Z'
}

func isSmall(b byte) bool {
	return 'a' <= b && b <= 'z'
}

func isCodeByte(b byte) bool {
	return isCapital(b) || isSmall(b) || '0' <= b && b <= '9'
}
