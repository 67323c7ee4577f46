package annals

import (
	"slices"
	"strconv"
	"strings"

	"ostracon/api"
)

// Format returns annals as text.
func Format(a api.Annals) (string, api.Errno) {
	if e := Check(a); e != api.OK {
		return "", e
	}
	var out strings.Builder
	for _, name := range a.Points {
		out.WriteString(lineOf("point", name))
	}
	for _, f := range a.Facts {
		out.WriteString(lineOf("fact", a.Points[f.From], a.Points[f.To], strconv.Itoa(f.Low), strconv.Itoa(f.High)))
	}
	for _, r := range a.Reigns {
		out.WriteString(lineOf("reign", r.King, a.Points[r.Start], a.Points[r.End]))
	}
	return out.String(), api.OK
}

func lineOf(words ...string) string {
	return strings.Join(words, " ") + "\n"
}

// Parse reads annals from text.
func Parse(s string) (a api.Annals, line int, e api.Errno) {
	if len(s) > api.MaxText {
		return api.Annals{}, 0, api.ErrMany
	}
	a, line = parseLines(s)
	if line > 0 {
		return api.Annals{}, line, api.ErrForm
	}
	if e := Check(a); e != api.OK {
		return api.Annals{}, 0, e
	}
	return a, 0, api.OK
}

// parseLines reads annals that need not be valid; bad is the number of the first
// line that does not have its form or names no point, and 0 if there is none.
func parseLines(s string) (a api.Annals, bad int) {
	r := reader{points: map[string]int{}}
	for number := 1; s != ""; number++ {
		line, rest, ended := strings.Cut(s, "\n")
		if !ended || !r.readLine(line) {
			return api.Annals{}, number
		}
		s = rest
	}
	return r.read, 0
}

// reader has what the lines so far say, and the first point of each name.
type reader struct {
	read   api.Annals
	points map[string]int
}

// readLine reads what a line says. It reports whether the line has its form, may
// stand there and names points alone that have been read.
func (r *reader) readLine(line string) bool {
	words := strings.Split(line, " ")
	if slices.Contains(words, "") {
		return false
	}
	switch words[0] {
	case "point":
		return len(r.read.Facts) == 0 && len(r.read.Reigns) == 0 && r.readPoint(words[1:])
	case "fact":
		return len(r.read.Reigns) == 0 && r.readFact(words[1:])
	case "reign":
		return r.readReign(words[1:])
	}
	return false
}

func (r *reader) readPoint(words []string) bool {
	if len(words) != 1 {
		return false
	}
	if _, old := r.points[words[0]]; !old {
		r.points[words[0]] = len(r.read.Points)
	}
	r.read.Points = append(r.read.Points, words[0])
	return true
}

func (r *reader) readFact(words []string) bool {
	if len(words) != 4 {
		return false
	}
	from, isFrom := r.points[words[0]]
	to, isTo := r.points[words[1]]
	low, isLow := parseNumber(words[2])
	high, isHigh := parseNumber(words[3])
	r.read.Facts = append(r.read.Facts, api.Fact{From: from, To: to, Low: low, High: high})
	return isFrom && isTo && isLow && isHigh
}

func (r *reader) readReign(words []string) bool {
	if len(words) != 3 {
		return false
	}
	start, isStart := r.points[words[1]]
	end, isEnd := r.points[words[2]]
	r.read.Reigns = append(r.read.Reigns, api.Reign{King: words[0], Start: start, End: end})
	return isStart && isEnd
}

// parseNumber reads a number of one to five digits without a leading zero, which
// may be below 0.
func parseNumber(s string) (n int, ok bool) {
	digits, below := strings.CutPrefix(s, "-")
	if len(digits) < 1 || len(digits) > 5 || digits[0] == '0' && s != "0" {
		return 0, false
	}
	for i := range len(digits) {
		if digits[i] < '0' || digits[i] > '9' {
			return 0, false
		}
		n = n*10 + int(digits[i]-'0')
	}
	if below {
		n = -n
	}
	return n, true
}
