package signs

import (
	"strconv"
	"strings"

	"ostracon/api"
)

// Format returns a list as text.
func Format(l api.List) (string, api.Errno) {
	if e := Check(l); e != api.OK {
		return "", e
	}
	var out strings.Builder
	out.WriteString("periods " + strconv.Itoa(l.Periods) + "\n")
	for _, s := range l.Signs {
		out.WriteString(formatSign(s) + "\n")
	}
	return out.String(), api.OK
}

func formatSign(s api.Sign) string {
	line := s.Code + " " + strconv.Itoa(s.Wide) + "x" + strconv.Itoa(s.High)
	if s.Even {
		line += " ="
	}
	for _, v := range s.Values {
		line += " " + formatValue(v)
	}
	return line
}

func formatValue(v api.Value) string {
	return kindLetters[v.Kind] + ":" + v.Text + "@" + strconv.Itoa(v.From) + "-" + strconv.Itoa(v.To)
}

// Parse reads a list from text.
func Parse(t string) (l api.List, line int, e api.Errno) {
	if len(t) > api.MaxText {
		return api.List{}, 0, api.ErrMany
	}
	l, line = parseLines(t)
	if line > 0 {
		return api.List{}, line, api.ErrForm
	}
	if e := Check(l); e != api.OK {
		return api.List{}, 0, e
	}
	return l, 0, api.OK
}

// parseLines reads a list that need not be valid; bad is the number of the
// first line that does not have its form, and 0 if all have.
func parseLines(t string) (l api.List, bad int) {
	head, rest, ended := strings.Cut(t, "\n")
	periods, ok := parseHead(head)
	if !ended || !ok {
		return api.List{}, 1
	}
	l.Periods = periods
	for number := 2; rest != ""; number++ {
		line, after, ended := strings.Cut(rest, "\n")
		s, ok := parseSign(line)
		if !ended || !ok {
			return api.List{}, number
		}
		l.Signs = append(l.Signs, s)
		rest = after
	}
	return l, 0
}

func parseHead(line string) (periods int, ok bool) {
	number, ok := strings.CutPrefix(line, "periods ")
	if !ok {
		return 0, false
	}
	return parseNumber(number)
}

func parseSign(line string) (s api.Sign, ok bool) {
	fields := strings.Split(line, " ")
	if len(fields) < 2 || !isName(fields[0]) {
		return api.Sign{}, false
	}
	s.Code = fields[0]
	s.Wide, s.High, ok = parsePair(fields[1], "x")
	if !ok {
		return api.Sign{}, false
	}
	fields = fields[2:]
	if len(fields) > 0 && fields[0] == "=" {
		s.Even = true
		fields = fields[1:]
	}
	for _, f := range fields {
		v, ok := parseValue(f)
		if !ok {
			return api.Sign{}, false
		}
		s.Values = append(s.Values, v)
	}
	return s, true
}

func parseValue(field string) (v api.Value, ok bool) {
	letter, rest, _ := strings.Cut(field, ":")
	text, periods, _ := strings.Cut(rest, "@")
	kind, ok := parseKind(letter)
	if !ok || !isName(text) {
		return api.Value{}, false
	}
	from, to, ok := parsePair(periods, "-")
	if !ok {
		return api.Value{}, false
	}
	return api.Value{Kind: kind, Text: text, From: from, To: to}, true
}

func parseKind(letter string) (kind int, ok bool) {
	for k := sound; k <= class; k++ {
		if kindLetters[k] == letter {
			return k, true
		}
	}
	return 0, false
}

// isName reports whether s may stand for a code or the text of a value in a
// line; whether it is a valid one is for Check to say.
func isName(s string) bool {
	for i := range len(s) {
		switch s[i] {
		case ' ', '@', ':', '\n':
			return false
		}
	}
	return s != ""
}

// parsePair reads two numbers with sep between them.
func parsePair(s, sep string) (first, second int, ok bool) {
	before, after, _ := strings.Cut(s, sep)
	first, ok = parseNumber(before)
	if !ok {
		return 0, 0, false
	}
	second, ok = parseNumber(after)
	if !ok {
		return 0, 0, false
	}
	return first, second, true
}

// parseNumber reads a number of one to three digits without a leading zero.
func parseNumber(s string) (n int, ok bool) {
	if !within(len(s), 3) || s[0] == '0' && s != "0" {
		return 0, false
	}
	for i := range len(s) {
		if !isDigit(s[i]) {
			return 0, false
		}
		n = n*10 + int(s[i]-'0')
	}
	return n, true
}
