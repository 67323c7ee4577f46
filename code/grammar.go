package code

import (
	"strings"

	"ostracon/api"
)

// read reads a group of the line code.
func (lineCode) read(r *reader) item {
	if r.next() == '<' {
		return r.framed(api.Ring, r.part)
	}
	return r.part()
}

// part reads what may stand within a ring.
func (r *reader) part() item {
	if r.next() == '[' {
		return r.framed(api.Honour, r.above)
	}
	return r.above()
}

// framed reads a node that has a frame of its own, with its kids.
func (r *reader) framed(kind int, kid func() item) item {
	f := frames[kind]
	r.expect(f.open)
	kids := r.several(f.between[0], kid)
	r.expect(f.close)
	return branch(kind, kids)
}

func (r *reader) above() item {
	return join(api.Above, r.several(':', r.beside))
}

// beside reads items of which none stands in parentheses alone.
func (r *reader) beside() item {
	parenthesis := r.next() == '('
	items := r.several('*', r.over)
	if parenthesis && len(items) == 1 {
		r.stop()
	}
	return join(api.Beside, items)
}

func (r *reader) over() item {
	if r.next() == '(' {
		return r.parenthesis()
	}
	items := []item{r.leaf()}
	if r.skip('&') {
		items = append(items, r.leaf())
	}
	return join(api.Over, items)
}

// parenthesis reads an Above, which only with a second kid is one.
func (r *reader) parenthesis() item {
	r.expect("(")
	kids := r.several(':', r.beside)
	if len(kids) == 1 {
		r.stop()
	}
	r.expect(")")
	return branch(api.Above, kids)
}

func (r *reader) leaf() item {
	if r.next() == '{' {
		return r.gap()
	}
	return r.glyph()
}

func (r *reader) gap() item {
	r.expect("{")
	least := r.digit('0', '9')
	r.expect("-")
	most := r.digit('0', '9')
	r.expect("}")
	return item{node: api.Node{Kind: api.Gap, Min: least, Max: most}}
}

// read reads an item of the tree code.
func (c treeCode) read(r *reader) item {
	switch r.next() {
	case '?':
		return r.lost()
	case '(':
		r.expect("(")
		kind := r.word()
		r.expect(" ")
		kids := r.several(' ', func() item { return c.read(r) })
		r.expect(")")
		return branch(kind, kids)
	}
	return r.glyph()
}

// lost reads a gap that has a question mark for each sign.
func (r *reader) lost() item {
	rest := r.text[r.at:]
	count := len(rest) - len(strings.TrimLeft(rest, "?"))
	r.at += count
	return item{node: api.Node{Kind: api.Gap, Min: count, Max: count}}
}
