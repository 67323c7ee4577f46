package annals_test

import (
	"strings"
	"testing"

	"ostracon/annals"
	"ostracon/api"
)

// text is the example as it is written.
const text = "point p\npoint q\npoint r\nfact p q 3 5\nfact q r 2 2\nreign K p q\nreign L q r\n"

// P11.9
func TestFormat(t *testing.T) {
	s, e := annals.Format(example())
	expect(t, "Format", s, e, text)
	s, e = annals.Format(api.Annals{})
	expect(t, "Format of nothing", s, e, "")
	s, e = annals.Format(third())
	expect(t, "Format of no solution", s, e, strings.Replace(text, "reign K", "fact p r 8 9\nreign K", 1))
	a := api.Annals{
		Points: []string{"point", "Fact9", "abcdefgh"},
		Facts:  []api.Fact{fact(2, 0, -10000, 10000), fact(0, 1, 0, 0), fact(1, 0, -7, -1), fact(0, 1, 0, 0)},
		Reigns: []api.Reign{reign("reign", 1, 0), reign("point", 0, 1)},
	}
	s, e = annals.Format(a)
	expect(t, "Format", s, e, "point point\npoint Fact9\npoint abcdefgh\nfact abcdefgh point -10000 10000\nfact point Fact9 0 0\nfact Fact9 point -7 -1\nfact point Fact9 0 0\nreign reign Fact9 point\nreign point point Fact9\n")
}

func parse(t *testing.T, s string) api.Annals {
	t.Helper()
	a, line, e := annals.Parse(s)
	if line != 0 || e != api.OK {
		t.Fatalf("Parse of %.100q: line %d, %d", s, line, e)
	}
	return a
}

func expectParse(t *testing.T, s string, wantLine int, want api.Errno) {
	t.Helper()
	a, line, e := annals.Parse(s)
	if line != wantLine || e != want || e != api.OK && !same(a, api.Annals{}) {
		t.Errorf("Parse(%.100q) = %v, line %d, %d, want line %d, %d", s, a, line, e, wantLine, want)
	}
}

// P11.10: what is read.
func TestParse(t *testing.T) {
	for s, want := range map[string]api.Annals{
		"":                   {},
		text:                 example(),
		"point p\n":          {Points: []string{"p"}},
		"point p\npoint P\n": {Points: []string{"p", "P"}},
		"point fact\npoint point\nreign reign point fact\n":             {Points: []string{"fact", "point"}, Reigns: []api.Reign{reign("reign", 1, 0)}},
		"point a\npoint b\nfact b a -10000 10000\n":                     {Points: []string{"a", "b"}, Facts: []api.Fact{fact(1, 0, -10000, 10000)}},
		"point a\npoint b\nfact a b 0 0\nfact a b -7 -1\n":              {Points: []string{"a", "b"}, Facts: []api.Fact{fact(0, 1, 0, 0), fact(0, 1, -7, -1)}},
		"point 0\npoint 1\nfact 1 0 1 9999\nreign 0 0 1\nreign 1 1 0\n": {Points: []string{"0", "1"}, Facts: []api.Fact{fact(1, 0, 1, 9999)}, Reigns: []api.Reign{reign("0", 0, 1), reign("1", 1, 0)}},
	} {
		if a := parse(t, s); !same(a, want) {
			t.Errorf("Parse(%q) = %v, want %v", s, a, want)
		}
	}
}

// P11.10: lines that do not have the form described.
func TestParseForm(t *testing.T) {
	for _, line := range []string{
		"", " ", "point", "point ", "p", "points a", "Point a", "oint a", "\xff", "\x00", "-", "# a", "point  a", " point a", "point a ", "point a b", "point\ta", "facts p q 0 0", "king K p q",
		"fact", "fact p", "fact p q", "fact p q 0", "fact p q 0 0 0", "fact p q 0 0 ", "fact p q  0 0", "fact p q 0 ", "fact  q 0 0", "fact 0 0 p q", "fact p 0 q 0", "fact\tp q 0 0", "fact p q 0 0\r", "fact p\tq 0 0", " fact p q 0 0",
		"fact p q -0 0", "fact p q 0 -0", "fact p q 00 0", "fact p q 0 00", "fact p q 01 2", "fact p q -01 2", "fact p q 1 02", "fact p q 1 -02", "fact p q 0 000001", "fact p q 0 100000", "fact p q -100000 0", "fact p q 0 +1", "fact p q +0 1", "fact p q --1 1", "fact p q 1- 1", "fact p q - 1", "fact p q 1 -", "fact p q 1e1 20", "fact p q 0x1 20", "fact p q 1_0 20", "fact p q \u0661 20", "fact p q 1/ 20", "fact p q 1: 20", "fact p q a 20", "fact p q 1 z", "fact p q -a 20", "fact p q 1.0 2",
		"fact p q 0 " + strings.Repeat("9", 400), "fact p q 0 -" + strings.Repeat("0", 400),
		"fact x q 0 0", "fact p x 0 0", "fact P q 0 0", "fact p Q 0 0", "fact p p1 0 0", "fact \xff q 0 0",
	} {
		expectParse(t, line+"\n", 1, api.ErrForm)
		expectParse(t, "point p\npoint q\n"+line+"\npoint\n", 3, api.ErrForm)
		expectParse(t, "point p\npoint q\nfact p q 99999 0\n"+line+"\nreign\n", 4, api.ErrForm)
	}
	for _, line := range []string{"", "reign", "reign ", "reign K", "reign K p", "reign K p ", "reign K p q ", "reign K p q r", "reign  p q", "reign K  q", " reign K p q", "reign\tK p q", "reign K x q", "reign K p x", "reign K p Q", "reign p q", "Reign K p q", "reigns K p q", "reign K p q 0", "reign K K p"} {
		expectParse(t, line+"\n", 1, api.ErrForm)
		expectParse(t, "point p\npoint q\n"+line+"\npoint\n", 3, api.ErrForm)
		expectParse(t, "point p\npoint q\nfact p q 0 99999\nreign K p p\n"+line+"\nx\n", 5, api.ErrForm)
	}
	for _, line := range []string{"point r", "fact p q 0 0", "reign K p q", "x", " ", "point"} {
		expectParse(t, line, 1, api.ErrForm)
		expectParse(t, "point p\npoint q\n"+line, 3, api.ErrForm)
	}
	expectParse(t, "\n", 1, api.ErrForm)
	expectParse(t, "\n"+text, 1, api.ErrForm)
	expectParse(t, text+"\n", 8, api.ErrForm)
	expectParse(t, text+text, 8, api.ErrForm)
	expectParse(t, strings.TrimSuffix(text, "\n"), 7, api.ErrForm)
	expectParse(t, strings.ReplaceAll(text, "\n", "\r\n"), 4, api.ErrForm)
}

// P11.10: facts stand behind points, reigns behind facts, and each name behind the
// line of its point.
func TestParseOrder(t *testing.T) {
	const points, more, given, reigns = "point p\npoint q\n", "point r\n", "fact p q 0 0\n", "reign K p q\n"
	for s, line := range map[string]int{
		points + more + given + reigns: 0, points + given: 0, points + reigns: 0, points + given + given + reigns: 0,
		given + points: 1, reigns + points: 1, points + given + more: 4, points + reigns + more: 4, points + reigns + given: 4, points + given + reigns + more: 5, points + given + reigns + given: 5, points + reigns + more + given: 4,
		"point p\n" + given + "point q\n": 2, "point p\n" + reigns + "point q\n": 2, "point p\n" + more + given: 3,
	} {
		want := api.OK
		if line > 0 {
			want = api.ErrForm
		}
		expectParse(t, s, line, want)
	}
}

// P11.10: Check's errors come behind those of any line, with the line 0.
func TestParseCheck(t *testing.T) {
	const points = "point p\npoint q\n"
	for s, want := range map[string]api.Errno{
		"point p\npoint p\n": api.ErrPoint, "point abcdefghi\n": api.ErrPoint, "point -\n": api.ErrPoint, "point \xff\n": api.ErrPoint, "point \x00\n": api.ErrPoint, "point é\n": api.ErrPoint, "point a\tb\n": api.ErrPoint, "point p\r\n": api.ErrPoint, "point " + strings.Repeat("a", 1000) + "\n": api.ErrPoint,
		points + "fact p q 1 0\n": api.ErrFact, points + "fact p p 0 0\n": api.ErrFact, points + "fact p q 0 10001\n": api.ErrFact, points + "fact p q -10001 0\n": api.ErrFact, points + "fact q p 99999 -99999\n": api.ErrFact,
		points + "reign K p p\n": api.ErrReign, points + "reign - p q\n": api.ErrReign, points + "reign abcdefghi p q\n": api.ErrReign, points + "reign K p q\nreign K q p\n": api.ErrReign, points + "reign \xff q p\n": api.ErrReign,
		points + "reign - p q\nreign K p p\n":                               api.ErrReign,
		points + "fact p p 0 0\nreign K p p\n":                              api.ErrFact,
		points + "point p\nfact p p 0 0\nreign K p p\n":                     api.ErrPoint,
		points + strings.Repeat("point \xff\n", 59):                         api.ErrMany,
		points + strings.Repeat("fact p q 1 0\n", api.MaxFacts+1):           api.ErrMany,
		points + "point p\n" + strings.Repeat("reign K p q\n", 31):          api.ErrMany,
		points + "point p\nfact p q 99999 -99999\nreign \xff\xff\xff p p\n": api.ErrPoint,
	} {
		expectParse(t, s, 0, want)
		n := 1 + strings.Count(s, "\n")
		expectParse(t, s+"fact p x 0 0\n", n, api.ErrForm)
		expectParse(t, s+"reign K p", n, api.ErrForm)
	}
	// Of points with equal names the first one is meant: the facts are as they
	// must be, and what is wrong is the name of the third point.
	expectParse(t, points+"point q\nfact q p 0 0\n", 0, api.ErrPoint)
}

// P11.10: the length of the text, in bytes, comes before all lines.
func TestParseMany(t *testing.T) {
	long := "point " + strings.Repeat("a", api.MaxText-7) + "\n"
	expectParse(t, long, 0, api.ErrPoint)
	expectParse(t, "x"+long, 0, api.ErrMany)
	expectParse(t, long+"\n", 0, api.ErrMany)
	expectParse(t, "point "+strings.Repeat("é", api.MaxText/2)+"\n", 0, api.ErrMany)
	expectParse(t, strings.Repeat("\n", api.MaxText), 1, api.ErrForm)
	expectParse(t, strings.Repeat("\n", api.MaxText+1), 0, api.ErrMany)
	many := strings.Repeat("point a\n", api.MaxText/8)
	expectParse(t, many, 0, api.ErrMany)
	expectParse(t, many[:len(many)-1]+"\n", 0, api.ErrMany)
	expectParse(t, many[8:]+"point \n\n", api.MaxText/8, api.ErrForm)
}

// P11.18
func TestParseOfFormat(t *testing.T) {
	d := dice(60)
	all := []api.Annals{{}, example(), third(), crowd(60, 200, 30)}
	for range 1500 {
		all = append(all, d.annals(12, 20))
	}
	for _, a := range all {
		s, e := annals.Format(a)
		if e != api.OK {
			t.Fatalf("Format of %v: %d", a, e)
		}
		if back := parse(t, s); !same(back, a) {
			t.Fatalf("Parse of %q = %v, want %v", s, back, a)
		}
	}
}

// P11.10: Parse reads what Format writes and nothing else.
func TestFormatOfParse(t *testing.T) {
	d := dice(61)
	read := 0
	for range 30000 {
		s := []byte(text)
		for range 1 + d.below(3) {
			at := d.below(len(s))
			switch d.below(3) {
			case 0:
				s[at] = " \npqrKL-0123\t"[d.below(13)]
			case 1:
				s = append(s[:at], s[at+1:]...)
			case 2:
				s = append(s[:at], append([]byte{s[d.below(len(s))]}, s[at:]...)...)
			}
		}
		a, line, e := annals.Parse(string(s))
		if e != api.OK {
			if (line > 0) != (e == api.ErrForm) {
				t.Fatalf("Parse of %q: line %d, %d", s, line, e)
			}
			continue
		}
		read++
		back, e := annals.Format(a)
		expect(t, "Format of Parse", back, e, string(s))
	}
	if read < 300 {
		t.Errorf("only %d texts are read", read)
	}
}
