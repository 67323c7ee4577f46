package edition

import (
	"strings"

	"ostracon/api"
	"ostracon/code"
	"ostracon/signs"
)

// titleMark is what the line of a title begins with.
const titleMark = "text "

// Save returns a volume as text.
func Save(v api.Volume) (string, api.Errno) {
	if e := Check(v); e != api.OK {
		return "", e
	}
	list, _ := signs.Format(v.List)
	var s sheet
	for _, item := range v.Items {
		text, _ := code.Write(code.Line, v.List, item.Text)
		s.print(titleMark, item.Title)
		s.print(text)
	}
	return list + s.text(), api.OK
}

// Load reads a volume from text.
func Load(s string) (v api.Volume, line int, e api.Errno) {
	if !strings.HasSuffix(s, "\n") {
		return api.Volume{}, strings.Count(s, "\n") + 1, api.ErrForm
	}
	head, items := splitList(s)
	list, line, e := signs.Parse(head)
	if e != api.OK {
		return api.Volume{}, line, e
	}
	r := newLoader(list)
	if line, e := r.readLines(items); e != api.OK {
		return api.Volume{}, strings.Count(head, "\n") + line, e
	}
	return r.read, 0, api.OK
}

// splitList returns the lines of the list, and those from the first title on.
func splitList(s string) (list, items string) {
	if strings.HasPrefix(s, titleMark) {
		return "", s
	}
	at := strings.Index(s, "\n"+titleMark)
	if at < 0 {
		return s, ""
	}
	return s[:at+1], s[at+1:]
}

// loader reads the items of a volume.
type loader struct {
	read api.Volume
	// next reads the next line: a title and a text take turns.
	next func(line string) api.Errno
	// title is the one whose text has not been read yet; there is none if it is empty.
	title string
}

func newLoader(list api.List) *loader {
	r := &loader{read: api.Volume{List: list}}
	r.next = r.readTitle
	return r
}

// readLines reads lines that all end with a line feed. With an error it returns
// the number of a line, counted from 1.
func (r *loader) readLines(s string) (line int, e api.Errno) {
	number := 1
	for ; s != ""; number++ {
		text, rest, _ := strings.Cut(s, "\n")
		if e := r.next(text); e != api.OK {
			return number, e
		}
		s = rest
	}
	if r.title != "" {
		return number, api.ErrForm
	}
	return 0, api.OK
}

func (r *loader) readTitle(line string) api.Errno {
	if len(r.read.Items) == api.MaxItems {
		return api.ErrMany
	}
	title, ok := strings.CutPrefix(line, titleMark)
	if !ok {
		return api.ErrForm
	}
	if !isTitle(title) || hasTitle(r.read.Items, title) {
		return api.ErrTitle
	}
	r.title, r.next = title, r.readText
	return api.OK
}

func (r *loader) readText(line string) api.Errno {
	t, _, e := code.Read(code.Line, r.read.List, line)
	if e != api.OK {
		return e
	}
	r.read.Items = append(r.read.Items, api.Item{Title: r.title, Text: t})
	r.title, r.next = "", r.readTitle
	return api.OK
}
