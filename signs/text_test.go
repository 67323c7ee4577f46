package signs_test

import (
	"slices"
	"strings"
	"testing"

	"ostracon/api"
	"ostracon/signs"
)

// P1.12
func TestFormat(t *testing.T) {
	l := api.List{Periods: 9, Signs: []api.Sign{
		{Code: "Zz9", Wide: 12, High: 1, Even: true, Values: []api.Value{value(3, "man", 1, 9), value(1, "nFr", 9, 9), value(2, "a", 2, 3)}},
		{Code: "A", Wide: 3, High: 10},
		{Code: "B", Wide: 3, High: 10, Values: []api.Value{value(1, "a", 1, 1)}},
		{Code: "C", Wide: 1, High: 1, Even: true},
	}}
	want := "periods 9\nZz9 12x1 = c:man@1-9 s:nFr@9-9 w:a@2-3\nA 3x10\nB 3x10 s:a@1-1\nC 1x1 =\n"
	if s, e := signs.Format(l); s != want || e != api.OK {
		t.Errorf("Format = %q, %d", s, e)
	}
	if s, e := signs.Format(api.List{Periods: 1}); s != "periods 1\n" || e != api.OK {
		t.Errorf("Format of no signs = %q, %d", s, e)
	}
	if s, e := signs.Format(broken()); s != "" || e != api.ErrCode {
		t.Errorf("Format of a list that is not valid = %q, %d", s, e)
	}
	if s, e := signs.Format(api.List{}); s != "" || e != api.ErrPeriod {
		t.Errorf("Format of the zero list = %q, %d", s, e)
	}
}

// P1.13: what is read.
func TestParse(t *testing.T) {
	l := parse(t, "periods 9\nZz9 12x1 = c:man@1-9 s:nFr@9-9 w:a@2-3\nA 3x10\n")
	want := api.List{Periods: 9, Signs: []api.Sign{
		{Code: "Zz9", Wide: 12, High: 1, Even: true, Values: []api.Value{value(3, "man", 1, 9), value(1, "nFr", 9, 9), value(2, "a", 2, 3)}},
		{Code: "A", Wide: 3, High: 10},
	}}
	if l.Periods != want.Periods || len(l.Signs) != 2 || !signs.Same(l, want) {
		t.Errorf("Parse = %v", l)
	}
	for i, s := range l.Signs {
		w := want.Signs[i]
		if s.Code != w.Code || s.Wide != w.Wide || s.High != w.High || s.Even != w.Even || !slices.Equal(s.Values, w.Values) {
			t.Errorf("sign %d is %v, want %v", i, s, w)
		}
	}
}

func expectParse(t *testing.T, text string, wantLine int, want api.Errno) {
	t.Helper()
	l, line, e := signs.Parse(text)
	if line != wantLine || e != want || e != api.OK && !signs.Same(l, api.List{}) {
		t.Errorf("Parse(%q) = %v, line %d, %d, want line %d, %d", text, l, line, e, wantLine, want)
	}
}

// P1.13: the line of periods.
func TestParseHead(t *testing.T) {
	for _, text := range []string{
		"", "\n", "periods 1", "periods\n", "periods \n", "periods 01\n", "periods 1000\n", "periods +1\n", "periods -1\n", "periods  1\n", " periods 1\n", "periods 1 \n", "Periods 1\n",
		"periods 1\r\n", "periods x\n", "periods 1/\n", "periods 1:\n", "periods ١\n", "periods 00\n", "period 1\n", "A1 1x1\n", "\nperiods 1\n", "\xff", "periods 1\x00\n", "periods1\n",
	} {
		expectParse(t, text, 1, api.ErrForm)
	}
	for _, text := range []string{"periods 0\n", "periods 10\n", "periods 999\n"} {
		expectParse(t, text, 0, api.ErrPeriod)
	}
	expectParse(t, "periods 1\n", 0, api.OK)
	expectParse(t, "periods 9\n", 0, api.OK)
}

// P1.13: lines of signs that do not have the form.
func TestParseForm(t *testing.T) {
	for _, line := range []string{
		"", " ", "A", "A ", "A 1", "A 1x", "A x1", "A x", "A 1X1", "A 1x1x1", "A 1*1", "A 1 x1", "A 1x 1", " A 1x1", "A  1x1", "A 1x1 ", " 1x1",
		"A 01x1", "A 1x01", "A 00x1", "A 1000x1", "A 1x1000", "A +1x1", "A -1x1", "A 1x1\r", "A 1x1\t", "A\t1x1",
		"A@ 1x1", "A: 1x1", "@ 1x1", "A 1x1=", "A 1x1  =", "A 1x1 = ", "A 1x1 = =", "A 1x1 ==", "A 1x1 s:a@1-1 =", "A = 1x1",
		"A 1x1 s", "A 1x1 s:", "A 1x1 s:a", "A 1x1 s:a@", "A 1x1 s:a@1", "A 1x1 s:a@1-", "A 1x1 s:a@-1", "A 1x1 s:@1-1", "A 1x1 :a@1-1", "A 1x1 a@1-1", "A 1x1 s@1-1",
		"A 1x1 x:a@1-1", "A 1x1 S:a@1-1", "A 1x1 ss:a@1-1", "A 1x1 1:a@1-1", "A 1x1 \x00:a@1-1", "A 1x1 s::a@1-1", "A 1x1 s:a:@1-1", "A 1x1 s:a:b@1-1", "A 1x1 s:a@@1-1", "A 1x1 s:a@b@1-1",
		"A 1x1 s:a@1-1-1", "A 1x1 s:a@01-1", "A 1x1 s:a@1-01", "A 1x1 s:a@1000-1", "A 1x1 s:a@1-1000", "A 1x1 s:a@1_1", "A 1x1 s:a@1-1:", "A 1x1 s:a@1-1@", "A 1x1 s :a@1-1", "A 1x1 s:a @1-1", "A 1x1 s:a@1- 1",
		"A 1x1  s:a@1-1", "A 1x1 s:a@1-1 ", "A 1x1 s:a@1-1  s:b@1-1", "A 1x1 s:a@1-1\r", "A 1x1 s:a@1-1s:b@1-1", "A 1x1 s:a@1-1,s:b@1-1", "periods 1",
	} {
		expectParse(t, "periods 1\n"+line+"\n", 2, api.ErrForm)
		expectParse(t, "periods 1\nB 1x1\nB 1x1 = s:b@1-1\n"+line+"\nC 1\n", 4, api.ErrForm)
	}
	for _, line := range []string{"A 1x1", "A 1x1 =", "A 1x1 s:a@1-1", "A"} {
		expectParse(t, "periods 1\n"+line, 2, api.ErrForm)
	}
}

// P1.13: lines that have the form, but of a list that is not valid.
func TestParseNotValid(t *testing.T) {
	for line, want := range map[string]api.Errno{
		"= 1x1": api.ErrCode, "\xff\x00\r 1x1": api.ErrCode, "abcdefghijk 1x1": api.ErrCode, "é 0x0": api.ErrCode, "1x1 1x1": api.ErrCode, "\t 1x1": api.ErrCode,
		"A 0x1": api.ErrSize, "A 1x0": api.ErrSize, "A 999x1": api.ErrSize, "A 1x13": api.ErrSize,
		"A 1x1 s:=@1-1": api.ErrValue, "A 1x1 s:abcdefghi@1-1": api.ErrValue, "A 1x1 w:\xff\x00@1-1": api.ErrValue, "A 1x1 c:Man@1-1": api.ErrValue, "A 1x1 s:a-b@1-1": api.ErrValue, "A 1x1 s:a\t@1-1": api.ErrValue,
		"A 1x1 s:a@0-1": api.ErrPeriod, "A 1x1 s:a@1-0": api.ErrPeriod, "A 1x1 s:a@999-999": api.ErrPeriod, "A 1x1 s:a@2-1": api.ErrPeriod, "A 1x1 s:a@1-1 s:a@1-1": api.ErrValue,
		"A 1x1 s:a@1-1 s:b@1-1 s:c@1-1 s:d@1-1 s:e@1-1 s:f@1-1 s:g@1-1 s:h@1-1 s:i@1-1 s:j@1-1 s:k@1-1 s:l@1-1 s:m@1-1": api.ErrMany,
	} {
		expectParse(t, "periods 1\n"+line+"\n", 0, want)
		expectParse(t, "periods 1\n"+line+"\nB\n", 3, api.ErrForm)
	}
	expectParse(t, "periods 0\na 0x0\n", 0, api.ErrPeriod)
	expectParse(t, "periods 1\nA 1x1\nA 1x1\n", 0, api.ErrCode)
	expectParse(t, "periods 0\n"+strings.Repeat("A 1x1\n", 201), 0, api.ErrMany)
}

// P1.13: the length of the text.
func TestParseLength(t *testing.T) {
	head := "periods 1\n"
	long := head + strings.Repeat("A", api.MaxText-len(head)-len(" 1x1\n")) + " 1x1\n"
	expectParse(t, long, 0, api.ErrCode)
	expectParse(t, long[:api.MaxText-1], 2, api.ErrForm)
	expectParse(t, long+"\n", 0, api.ErrMany)
	expectParse(t, strings.Repeat("\n", api.MaxText), 1, api.ErrForm)
	expectParse(t, strings.Repeat("\n", api.MaxText+1), 0, api.ErrMany)
	expectParse(t, head+strings.Repeat("A 1x1\n", 9000)+"\n", 9002, api.ErrForm)
}
