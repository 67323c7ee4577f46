package edition_test

import (
	"fmt"
	"slices"
	"strings"
	"testing"

	"ostracon/api"
	"ostracon/code"
	"ostracon/edition"
	"ostracon/signs"
)

// exampleText is the example as it is saved.
const exampleText = exampleList + "text one\nA1-B2:C3\ntext two\nB2#-{1-2}\n"

// P12.2
func TestSave(t *testing.T) {
	for _, c := range []struct {
		list  string
		items []string
		want  string
	}{
		{exampleList, []string{"one", "A1-B2:C3", "two", "B2#-{1-2}"}, exampleText},
		{"periods 9\n", nil, "periods 9\n"},
		{exampleList, nil, exampleList},
		{"periods 1\n", []string{"~ a  b !", ""}, "periods 1\ntext ~ a  b !\n\n"},
		{"periods 1\n", []string{"text", "", "text text", ""}, "periods 1\ntext text\n\ntext text text\n\n"},
		{"periods 2\nB2 2x1 = w:a@2-2 s:b@1-2\nA1 1x1\n", []string{"2", `A1\/3!*(B2:B2/1=)-<[A1;B2&A1#]>`, "1", "{0-9}"}, "periods 2\nB2 2x1 = w:a@2-2 s:b@1-2\nA1 1x1\ntext 2\nA1\\/3!*(B2:B2/1=)-<[A1;B2&A1#]>\ntext 1\n{0-9}\n"},
	} {
		s, e := edition.Save(volume(t, c.list, c.items...))
		expect(t, "Save", s, e, c.want)
	}
	s, e := edition.Save(broken())
	expectError(t, "Save", s, e, api.ErrDepth)
	s, e = edition.Save(many(41))
	expectError(t, "Save", s, e, api.ErrMany)
}

// P12.3: what is read.
func TestLoad(t *testing.T) {
	for s, want := range map[string]api.Volume{
		exampleText:               example(t),
		"periods 9\n":             volume(t, "periods 9\n"),
		"periods 1\ntext a\n\n":   volume(t, "periods 1\n", "a", ""),
		"periods 1\ntext ~ b\n\n": volume(t, "periods 1\n", "~ b", ""),
		"periods 2\nB2 2x1 = w:a@2-2 s:b@1-2\nA1 1x1\ntext 2\n" + `A1\/3!*(B2:B2/1=)-<[A1;B2&A1#]>` + "\ntext text 2\n{0-9}\n": volume(t, "periods 2\nB2 2x1 = w:a@2-2 s:b@1-2\nA1 1x1\n", "2", `A1\/3!*(B2:B2/1=)-<[A1;B2&A1#]>`, "text 2", "{0-9}"),
	} {
		v, line, e := edition.Load(s)
		if line != 0 || e != api.OK || !same(v, want) {
			t.Errorf("Load(%q) = %v, line %d, %d, want %v", s, v, line, e, want)
		}
	}
}

func expectLoad(t *testing.T, s string, wantLine int, want api.Errno) {
	t.Helper()
	v, line, e := edition.Load(s)
	if line != wantLine || e != want || e != api.OK && !same(v, api.Volume{}) {
		t.Errorf("Load(%.100q) = %v, line %d, %d, want line %d, %d", s, v, line, e, wantLine, want)
	}
}

// P12.3: a text that does not end with a line feed has the last line as its error,
// whatever else is wrong.
func TestLoadEnd(t *testing.T) {
	for s, line := range map[string]int{
		"": 1, "x": 1, " ": 1, "periods 1": 1, "text a": 1, "\n ": 2, "periods 0\nx": 2, "periods 1\ntext a": 2, "periods 1\ntext \nA9": 3, "periods 1\ntext a\n\ntext a\nA9": 5, exampleText + "text": 9, exampleText[:len(exampleText)-1]: 8, exampleText + "\r": 9, "\n\n\n\n\nx": 6,
	} {
		expectLoad(t, s, line, api.ErrForm)
	}
	expectLoad(t, strings.Repeat("\n", 1<<17)+"x", 1<<17+1, api.ErrForm)
	expectLoad(t, exampleList+strings.Repeat("text a\n\n", 50)+"x", 105, api.ErrForm)
}

// P12.3: the errors of the list, with the line that signs.Parse returns.
func TestLoadList(t *testing.T) {
	for head, want := range map[string]struct {
		line int
		e    api.Errno
	}{
		"":                           {1, api.ErrForm},
		"\n":                         {1, api.ErrForm},
		"x\n":                        {1, api.ErrForm},
		"text\n":                     {1, api.ErrForm},
		"Text a\n":                   {1, api.ErrForm},
		" text a\n":                  {1, api.ErrForm},
		"period 1\n":                 {1, api.ErrForm},
		"periods 1\n\n":              {2, api.ErrForm},
		"periods 1\nA\n":             {2, api.ErrForm},
		"periods 1\ntext\n":          {2, api.ErrForm},
		"periods 1\n text a\n":       {2, api.ErrForm},
		"periods 1\ntext\ta\n":       {2, api.ErrForm},
		"periods 1\nA 1x1\n\n":       {3, api.ErrForm},
		"periods 1\nA 1x1\nB 1x1x\n": {3, api.ErrForm},
		"periods 0\n":                {0, api.ErrPeriod},
		"periods 1\nA 13x1\n":        {0, api.ErrSize},
		"periods 1\nA 1x1\nA 1x1\n":  {0, api.ErrCode},
		"periods 1\na 1x1\n":         {0, api.ErrCode},
		"periods 1\nA 1x1 s:?@1-1\n": {0, api.ErrValue},
		"periods 1\n" + strings.Repeat("A 1x1\n", api.MaxSigns+1):  {0, api.ErrMany},
		"periods 1\n" + strings.Repeat("x\n", 1<<15):               {0, api.ErrMany},
		"periods 1\n" + strings.Repeat("A 1x1\n", 1<<10) + "\nx\n": {2 + 1<<10, api.ErrForm},
	} {
		for _, tail := range []string{"", "text a\n\n", "text a\nZ9\n", "text \nZ9\n", "text a\n", "text a\n\nx\n", strings.Repeat("text a\n\n", 50)} {
			if tail == "" && head == "" {
				continue
			}
			expectLoad(t, head+tail, want.line, want.e)
		}
	}
	// Before the first title there may be no line, or an empty one; all that comes behind
	// it is not of the list, however long it is.
	for _, head := range []string{"text a\n", "\ntext a\n"} {
		expectLoad(t, head+strings.Repeat("x", api.MaxText)+"\n", 1, api.ErrForm)
	}
	// The length of all lines together does not matter, but that of those of the list.
	long := "periods 1\nLongcode 1x1\n"
	line := strings.Repeat("Longcode-", 199) + "Longcode\n"
	for i := range api.MaxItems {
		long += fmt.Sprint("text ", i, "\n", line)
	}
	if len(long) <= api.MaxText {
		t.Fatalf("the volume has %d bytes", len(long))
	}
	expectLoad(t, long, 0, api.OK)
}

// P12.3: titles.
func TestLoadTitles(t *testing.T) {
	for title, want := range map[string]api.Errno{
		"text a": api.OK, "text text ": api.ErrTitle, "text ": api.ErrTitle, "text  ": api.ErrTitle, "text  a": api.ErrTitle, "text a ": api.ErrTitle, "text a\r": api.ErrTitle, "text é": api.ErrTitle, "text \x00": api.ErrTitle, "text " + strings.Repeat("x", 40): api.OK, "text " + strings.Repeat("x", 41): api.ErrTitle,
		"text one": api.ErrTitle, "text two": api.ErrTitle, "text One": api.OK, "text one two": api.OK,
		"": api.ErrForm, "text": api.ErrForm, "texta": api.ErrForm, " text a": api.ErrForm, "Text a": api.ErrForm, "text\ta": api.ErrForm, "A1": api.ErrForm, "a": api.ErrForm, "tex a": api.ErrForm, "\xff": api.ErrForm, "periods 1": api.ErrForm,
	} {
		line := 9
		if want == api.OK {
			line = 0
		}
		for _, text := range []string{"", "A1", "{1-1}"} {
			expectLoad(t, exampleText+title+"\n"+text+"\n", line, want)
		}
		if want != api.OK {
			// The line of a title comes before the next one, whether that has an error or is not there.
			expectLoad(t, exampleText+title+"\n", 9, want)
			expectLoad(t, exampleText+title+"\nZ9\n", 9, want)
		}
	}
	// The line of a text is none of a title, whatever it begins with.
	expectLoad(t, "periods 1\ntext a\ntext b\n\n", 3, api.ErrForm)
	expectLoad(t, "periods 1\ntext a\n\n\n", 4, api.ErrForm)
	expectLoad(t, "periods 1\ntext a\n\ntext b\n", 5, api.ErrForm)
	expectLoad(t, "periods 1\ntext a\n", 3, api.ErrForm)
	expectLoad(t, exampleText+"text three\n", 10, api.ErrForm)
}

// P12.3: texts.
func TestLoadTexts(t *testing.T) {
	for text, want := range map[string]api.Errno{
		"A1-": api.ErrForm, "-": api.ErrForm, " ": api.ErrForm, "A1 ": api.ErrForm, "A1\r": api.ErrForm, "(beside A1 B2)": api.ErrForm, "A1 B2": api.ErrForm, "\xff": api.ErrForm,
		"Z9": api.ErrSign, "A1-Z9": api.ErrSign, "[A1]": api.ErrNode, "{2-1}": api.ErrGap, "{0-0}": api.ErrGap, "A1*A1*A1*A1*A1*A1*A1": api.ErrNode,
		strings.Repeat("A1-", 200) + "A1":                        api.ErrMany,
		strings.Repeat("A", api.MaxText):                         api.ErrForm,
		strings.Repeat("A", api.MaxText+1):                       api.ErrMany,
		strings.Repeat("A1-", api.MaxText/3) + "Z9":              api.ErrMany,
		strings.Repeat("A1-", api.MaxText/3-1) + "Z9" + "-A1-A1": api.ErrMany,
	} {
		expectLoad(t, exampleText+"text three\n"+text+"\n", 10, want)
		expectLoad(t, exampleText+"text three\n"+text+"\nx\n", 10, want)
		expectLoad(t, exampleList+"text one\n"+text+"\ntext one\n"+text+"\n", 6, want)
	}
	expectLoad(t, "periods 1\ntext a\nA1\n", 3, api.ErrSign)
	expectLoad(t, "periods 1\ntext a\n{1-1}\n", 0, api.OK)
}

// P12.3: at most 40 items.
func TestLoadMany(t *testing.T) {
	s := "periods 1\n"
	for i := range api.MaxItems {
		s += fmt.Sprint("text ", i, "\n\n")
	}
	expectLoad(t, s, 0, api.OK)
	for _, more := range []string{"text a\n\n", "text a\n", "text \n\n", "text 0\n\n", "x\n", "\n", "text a\nZ9\n", "text a\n\ntext b\n\n"} {
		expectLoad(t, s+more, 82, api.ErrMany)
	}
	fewer := strings.TrimSuffix(s, "text 39\n\n")
	expectLoad(t, fewer, 0, api.OK)
	expectLoad(t, fewer+"x\n", 80, api.ErrForm)
	expectLoad(t, fewer+"text \n\n", 80, api.ErrTitle)
	expectLoad(t, fewer+"text 0\n\n", 80, api.ErrTitle)
	expectLoad(t, fewer+"text 38\n\n", 80, api.ErrTitle)
	expectLoad(t, fewer+"text a\n", 81, api.ErrForm)
	expectLoad(t, fewer+"text a\nZ9\n", 81, api.ErrSign)
}

// loadAsTold reads a volume as the chapter tells it.
func loadAsTold(s string) (v api.Volume, line int, e api.Errno) {
	lines := strings.Split(s, "\n")
	if lines[len(lines)-1] != "" || s == "" {
		return api.Volume{}, len(lines), api.ErrForm
	}
	lines = lines[:len(lines)-1]
	first := slices.IndexFunc(lines, func(line string) bool { return strings.HasPrefix(line, "text ") })
	if first < 0 {
		first = len(lines)
	}
	list := ""
	for _, line := range lines[:first] {
		list += line + "\n"
	}
	if v.List, line, e = signs.Parse(list); e != api.OK {
		return api.Volume{}, line, e
	}
	for at := first; at < len(lines); at += 2 {
		title, ok := strings.CutPrefix(lines[at], "text ")
		switch {
		case len(v.Items) == 40:
			return api.Volume{}, at + 1, api.ErrMany
		case !ok:
			return api.Volume{}, at + 1, api.ErrForm
		}
		v.Items = append(v.Items, api.Item{Title: title})
		if edition.Check(v) != api.OK {
			return api.Volume{}, at + 1, api.ErrTitle
		}
		if at+1 == len(lines) {
			return api.Volume{}, at + 2, api.ErrForm
		}
		text, _, e := code.Read(code.Line, v.List, lines[at+1])
		if e != api.OK {
			return api.Volume{}, at + 2, e
		}
		v.Items[len(v.Items)-1].Text = text
	}
	return v, 0, api.OK
}

// spoiled changes some bytes or lines of a text.
func (d *dice) spoiled(s string) string {
	for range d.below(4) {
		at := d.below(len(s) + 1)
		lines := strings.SplitAfter(s, "\n")
		row := d.below(len(lines))
		switch d.below(6) {
		case 0:
			s = s[:at] + pick(d, "\n", " ", "A1", "-", "text ", "x", "\xff", "1", ":") + s[at:]
		case 1:
			s = s[:at] + s[min(len(s), at+1):]
		case 2:
			s = strings.Join(slices.Delete(slices.Clone(lines), row, row+1), "")
		case 3:
			s = strings.Join(slices.Insert(lines, row, lines[d.below(len(lines))]), "")
		case 4:
			s = strings.Join(slices.Insert(lines, row, pick(d, "\n", "text new\n", "A1\n", "text one\n", "Z9 1x1\n", "text ring\n<{2-1}>\n", "text row\n[{1-1};<A1>]\n", "text over\n{1-1}&{1-1}\n")), "")
		case 5:
			s = s[:at]
		}
	}
	return s
}

// P12.3: Load of texts with errors, and R9: Load reads what Save writes and nothing
// else.
func TestLoadAsTold(t *testing.T) {
	d := dice(30)
	seen := map[api.Errno]int{}
	for range 30000 {
		s := exampleText
		if d.below(3) == 0 {
			s, _ = edition.Save(d.volume(4))
		}
		s = d.spoiled(s)
		want, wantLine, wantErr := loadAsTold(s)
		v, line, e := edition.Load(s)
		if line != wantLine || e != wantErr || !same(v, want) {
			t.Fatalf("Load(%q) = %v, line %d, %d, want %v, line %d, %d", s, v, line, e, want, wantLine, wantErr)
		}
		seen[e]++
		if e == api.OK {
			back, e := edition.Save(v)
			expect(t, "Save of Load", back, e, s)
		}
	}
	for _, e := range []api.Errno{api.OK, api.ErrForm, api.ErrTitle, api.ErrSign, api.ErrCode, api.ErrNode} {
		if seen[e] < 20 {
			t.Errorf("the error %d is seen %d times", e, seen[e])
		}
	}
}
