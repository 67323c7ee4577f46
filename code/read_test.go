package code_test

import (
	"math"
	"strings"
	"testing"

	"ostracon/api"
	"ostracon/code"
	"ostracon/groups"
)

// P3.3: what is written is read.
func TestRead(t *testing.T) {
	l := list(t)
	for _, c := range samples() {
		for _, kind := range kinds {
			s, can := c.in(kind)
			if !can {
				continue
			}
			if x := mustRead(t, kind, l, s); !groups.Same(x, c.text) {
				t.Errorf("Read(%d, %q) = %v, want %v", kind, s, x, c.text)
			}
		}
	}
}

// P3.3: where a text goes on wrongly.
func TestReadForm(t *testing.T) {
	l := list(t)
	for _, c := range []struct {
		kind int
		s    string
		at   int
	}{
		{code.Line, "A1*", 3}, {code.Line, "A1-", 3}, {code.Line, "-A1", 0}, {code.Line, "A1--B2", 3}, {code.Line, " ", 0}, {code.Line, "A1 ", 2}, {code.Line, "A1\n", 2}, {code.Line, "A1\x00", 2}, {code.Line, "\x00", 0}, {code.Line, "\xff", 0}, {code.Line, "A\xc3\x84", 1},
		{code.Line, "a1", 0}, {code.Line, "1A", 0}, {code.Line, "Sign01234", 8}, {code.Line, "Aaaaaaaaaaaa", 8},
		{code.Line, `A1\\`, 3}, {code.Line, `A1/1\`, 4}, {code.Line, "A1/", 3}, {code.Line, "A1/0", 3}, {code.Line, "A1/4", 3}, {code.Line, "A1/11", 4}, {code.Line, "A1#=", 3}, {code.Line, "A1!!", 3}, {code.Line, "A1#/1", 3}, {code.Line, `A1=\`, 3}, {code.Line, `A1\#/1`, 4},
		{code.Line, "{", 1}, {code.Line, "{}", 1}, {code.Line, "{1}", 2}, {code.Line, "{1-}", 3}, {code.Line, "{-1}", 1}, {code.Line, "{1-10}", 4}, {code.Line, "{01-1}", 2}, {code.Line, "{1-1", 4}, {code.Line, "{1-1}#", 5}, {code.Line, `{1-1}\`, 5}, {code.Line, "{a-1}", 1}, {code.Line, "?", 0},
		{code.Line, "A1&", 3}, {code.Line, "A1&B2&C3", 5}, {code.Line, "A1&(B2:C3)", 3}, {code.Line, "(A1:B2)&C3", 7}, {code.Line, "&A1", 0},
		{code.Line, "(A1)", 3}, {code.Line, "(A1*B2)", 6}, {code.Line, "(A1:B2)", 7}, {code.Line, "(A1:B2", 6}, {code.Line, "()", 1}, {code.Line, "A1*(B2)", 6}, {code.Line, "A1:(B2:C3)", 10}, {code.Line, "(A1:B2):C3", 7}, {code.Line, "(A1:B2)-C3", 7}, {code.Line, "((A1:B2))*C3", 8}, {code.Line, "((A1:B2):C3)*A1", 8}, {code.Line, "((A1:B2)*C3)*A1", 11}, {code.Line, "<(A1:B2)>", 8}, {code.Line, "[(A1:B2);C3]", 8}, {code.Line, "A1)", 2}, {code.Line, "(A1-B2)", 3}, {code.Line, "A1*(<B2>:C3)", 4}, {code.Line, "([A1;B2]:C3)*A1", 1},
		{code.Line, "<>", 1}, {code.Line, "<A1", 3}, {code.Line, "<A1-", 4}, {code.Line, "<<A1>>", 1}, {code.Line, "<A1-<B2>>", 4}, {code.Line, "<A1;B2>", 3}, {code.Line, "<A1]", 3}, {code.Line, "<A1>*B2", 4}, {code.Line, "<A1>>", 4}, {code.Line, "A1*<B2>", 3},
		{code.Line, "[]", 1}, {code.Line, "[A1;", 4}, {code.Line, "[A1-B2]", 3}, {code.Line, "[[A1;B2];C3]", 1}, {code.Line, "[<A1>;B2]", 1}, {code.Line, "[A1;B2]:C3", 7}, {code.Line, "[A1;B2]*C3", 7}, {code.Line, "[A1;B2>", 6},
		{code.Tree, " ", 0}, {code.Tree, "A1 ", 3}, {code.Tree, " A1", 0}, {code.Tree, "A1  B2", 3}, {code.Tree, "A1-B2", 2}, {code.Tree, "A1#", 2}, {code.Tree, "A1=", 2}, {code.Tree, `A1\/1!`, 5}, {code.Tree, "A1/4", 3}, {code.Tree, "Sign01234", 8}, {code.Tree, "{1-1}", 0}, {code.Tree, "?A1", 1}, {code.Tree, "A1?", 2}, {code.Tree, "??#", 2},
		{code.Tree, "(", 1}, {code.Tree, "()", 1}, {code.Tree, "(bes", 4}, {code.Tree, "(bexide A1)", 3}, {code.Tree, "(Beside A1 B2)", 1}, {code.Tree, "(besides A1 B2)", 7}, {code.Tree, "(above)", 6}, {code.Tree, "(above )", 7}, {code.Tree, "(above A1", 9}, {code.Tree, "(above A1 )", 10}, {code.Tree, "(above  A1)", 7}, {code.Tree, "(ring A1))", 9}, {code.Tree, "(ring A1)(ring A1)", 9}, {code.Tree, "(A1)", 1}, {code.Tree, "(o", 2}, {code.Tree, "(ov A1 B2)", 3}, {code.Tree, "(gap A1)", 1}, {code.Tree, "(honor A1 B2)", 5}, {code.Tree, "\n", 0},
	} {
		expectStop(t, c.kind, l, c.s, c.at, api.ErrForm)
	}
}

// expectJudged expects of Read what the grammar says of s.
func expectJudged(t *testing.T, kind int, l api.List, s string, is bool, longest int) {
	t.Helper()
	if !is {
		expectStop(t, kind, l, s, longest, api.ErrForm)
		return
	}
	if at := unknown(l, s); at >= 0 {
		expectStop(t, kind, l, s, at, api.ErrSign)
		return
	}
	x, at, e := code.Read(kind, l, s)
	if at != 0 || e == api.ErrForm || e == api.ErrSign || e == api.ErrArg {
		t.Errorf("Read(%d, %q): at %d, %d", kind, s, at, e)
	}
	if e != api.OK {
		return
	}
	if back, e := code.Write(kind, l, x); back != s || e != api.OK {
		t.Errorf("Write(%d) of what is read of %q = %q, %d", kind, s, back, e)
	}
}

// unknown returns where the first code of a text stands that is no sign of the
// list, or -1. A code begins with a capital letter, and what has capital
// letters is part of a code.
func unknown(l api.List, s string) int {
	for at := 0; at < len(s); at++ {
		if !strings.Contains(capital, s[at:at+1]) {
			continue
		}
		end := at + 1
		for end < len(s) && strings.Contains(more, s[end:end+1]) {
			end++
		}
		known := false
		for _, sign := range l.Signs {
			known = known || sign.Code == s[at:end]
		}
		if !known {
			return at
		}
		at = end
	}
	return -1
}

// P3.3: all strings of a few pieces. A string that goes on behind the first
// wrong byte is judged like the one that ends with it.
func TestReadShort(t *testing.T) {
	const most = 6
	l := list(t)
	for kind, pieces := range map[int]string{
		code.Line: `E 1 \ / # ! { - } & * : ( ) < > [ ] ; (E:E`,
		code.Tree: `E 1 \ / # ? SPACE ( ) o ver ring SPACE?SPACE`,
	} {
		var visit func(s string, c chart, count int)
		visit = func(s string, c chart, count int) {
			expectJudged(t, kind, l, s, c.isText(), len(s))
			if count == most {
				return
			}
			for _, piece := range strings.Fields(pieces) {
				piece = strings.ReplaceAll(piece, "SPACE", space)
				if further, right := c.after(piece); right == len(piece) {
					visit(s+piece, further, count+1)
				} else {
					expectJudged(t, kind, l, s+piece, false, len(s)+right)
					expectJudged(t, kind, l, s+piece+"-E", false, len(s)+right)
				}
			}
		}
		visit("", newChart(kind), 0)
	}
}

// P3.3, P3.9: long strings that are texts, and such as are nearly texts.
func TestReadLong(t *testing.T) {
	l := list(t)
	d := dice(1)
	for _, kind := range kinds {
		valid := 0
		for range 1000 {
			s := d.someSentence(kind)
			is, longest := judge(kind, s)
			if !is {
				t.Fatalf("%q is not taken for a text", s)
			}
			expectJudged(t, kind, l, s, is, longest)
			if _, _, e := code.Read(kind, l, s); e == api.OK {
				valid++
			}
			for range 3 {
				s = d.spoil(s)
				is, longest := judge(kind, s)
				expectJudged(t, kind, l, s, is, longest)
			}
		}
		if valid < 100 {
			t.Errorf("only %d sentences of the code %d were valid", valid, kind)
		}
	}
}

// P3.3: codes that are no signs of the list.
func TestReadSign(t *testing.T) {
	l := list(t)
	for _, c := range []struct {
		kind int
		s    string
		at   int
	}{
		{code.Line, "Z9", 0}, {code.Line, "A1-Z9", 3}, {code.Line, "A1*(B2:Z9#)-Y8", 7}, {code.Line, "<A1-Z9>", 4}, {code.Line, "[Z9;A1]", 1}, {code.Line, "A", 0}, {code.Line, "A11", 0}, {code.Line, "E&Ea", 2}, {code.Line, "{1-1}-Sign0122", 6}, {code.Line, "{9-1}-Z", 6}, {code.Line, "[Z9]", 1},
		{code.Tree, "Z9", 0}, {code.Tree, "(beside A1 (above Z9 Y8))", 18}, {code.Tree, "?? Z9", 3}, {code.Tree, "(over Z9)", 6},
	} {
		expectStop(t, c.kind, l, c.s, c.at, api.ErrSign)
	}
	expectStop(t, code.Line, l, "Z9-A1*", 6, api.ErrForm)
	expectStop(t, code.Tree, l, "Z9 )", 3, api.ErrForm)
	expectStop(t, code.Line, api.List{Periods: 1}, "A1", 0, api.ErrSign)
	if x := mustRead(t, code.Line, api.List{Periods: 1}, "{0-9}"); !groups.Same(x, text(gap(0, 0, 9))) {
		t.Errorf("Read of a gap without signs = %v", x)
	}
}

// P3.3: texts by the grammar that are not valid.
func TestReadCheck(t *testing.T) {
	l := list(t)
	for _, c := range []struct {
		kind int
		s    string
		want api.Errno
	}{
		{code.Line, "[A1]", api.ErrNode}, {code.Line, "A1&{1-1}", api.ErrNode}, {code.Line, "{1-1}&A1", api.ErrNode}, {code.Line, "{3-1}", api.ErrGap}, {code.Line, "{0-0}", api.ErrGap}, {code.Line, `E\`, api.ErrNode}, {code.Line, "<A1*B2>", api.ErrNode}, {code.Line, "[A1*B2;C3]", api.ErrNode}, {code.Line, "<[A1;B2]-C3>", api.ErrNode}, {code.Line, "A1:B2:C3:A1:B2:C3:A1", api.ErrNode}, {code.Line, "<A1-B2-C3-A1-B2-C3-A1>", api.ErrNode},
		{code.Line, "A1*(B2:C3*(A1:B2*C3))", api.ErrDepth}, {code.Line, "[A1]-{0-0}", api.ErrGap},
		{code.Tree, "(beside A1)", api.ErrNode}, {code.Tree, "(over A1 ?)", api.ErrNode}, {code.Tree, "(over A1 B2 C3)", api.ErrNode}, {code.Tree, "(beside A1 (beside B2 C3))", api.ErrNode}, {code.Tree, "(above A1 (above B2 C3))", api.ErrNode}, {code.Tree, "(ring (ring A1))", api.ErrNode}, {code.Tree, "(beside A1 (honour B2 C3))", api.ErrNode}, {code.Tree, "??????????", api.ErrGap}, {code.Tree, "(ring (ring (ring (ring (ring A1)))))", api.ErrDepth},
		{code.Line, strings.Repeat("A1-", api.MaxNodes) + "A1", api.ErrMany}, {code.Tree, strings.Repeat("A1 ", api.MaxNodes) + "A1", api.ErrMany},
	} {
		expectStop(t, c.kind, l, c.s, 0, c.want)
	}
	if x := mustRead(t, code.Line, l, strings.Repeat("A1-", api.MaxNodes-1)+"A1"); len(x.Nodes) != api.MaxNodes {
		t.Errorf("Read of %d signs = %v", api.MaxNodes, x)
	}
}

// P3.3: which error comes first.
func TestReadOrder(t *testing.T) {
	l := list(t)
	long := strings.Repeat("A", api.MaxText+1)
	for _, kind := range []int{0, 3, -1, math.MinInt, math.MaxInt} {
		expectStop(t, kind, brokenList(), long, 0, api.ErrArg)
		expectStop(t, kind, l, "", 0, api.ErrArg)
	}
	for _, kind := range kinds {
		expectStop(t, kind, brokenList(), long, 0, api.ErrSize)
		expectStop(t, kind, brokenList(), "A1*", 0, api.ErrSize)
		expectStop(t, kind, brokenList(), "", 0, api.ErrSize)
		expectStop(t, kind, api.List{}, "", 0, api.ErrPeriod)
		expectStop(t, kind, l, long, 0, api.ErrMany)
		expectStop(t, kind, l, long[1:], api.MaxCode, api.ErrForm)
		expectStop(t, kind, l, strings.Repeat("\x00", api.MaxText+1), 0, api.ErrMany)
	}
}

// P0.1, P3.3: strings that are as long and as deep as can be.
func TestReadDeep(t *testing.T) {
	l := list(t)
	deep := strings.Repeat("(", api.MaxText)
	expectStop(t, code.Line, l, deep, api.MaxText, api.ErrForm)
	expectStop(t, code.Line, l, strings.Repeat("(", 8000)+"E"+strings.Repeat(":E)*E", 8000), 0, api.ErrMany)
	expectStop(t, code.Line, l, strings.Repeat("(", 8000)+"E"+strings.Repeat(":E)*E", 7999)+":E)", 8000+1+7999*5+3, api.ErrForm)
	expectStop(t, code.Tree, l, strings.Repeat("(ring ", 9000)+"E"+strings.Repeat(")", 9000), 0, api.ErrMany)
	expectStop(t, code.Tree, l, strings.Repeat("(ring ", 10922), 65532, api.ErrForm)
	expectStop(t, code.Tree, l, strings.Repeat("?", api.MaxText), 0, api.ErrGap)
	expectStop(t, code.Line, l, strings.Repeat("E-", api.MaxText/2), api.MaxText, api.ErrForm)
}
