package signs

import "ostracon/api"

// The kinds of values are those of package api; here they count by themselves,
// because they index kindLetters.
const (
	sound = iota + 1
	word
	class
)

// kindLetters has the letter of each kind in the text of a list.
var kindLetters = [...]string{sound: "s", word: "w", class: "c"}

// meaning is what a value says, in whatever periods it is in use.
type meaning struct {
	kind int
	text string
}

func meaningOf(v api.Value) meaning {
	return meaning{v.Kind, v.Text}
}

func inUse(v api.Value, period int) bool {
	return v.From <= period && period <= v.To
}

// Check returns the first error of a list.
func Check(l api.List) api.Errno {
	if len(l.Signs) > api.MaxSigns {
		return api.ErrMany
	}
	if !within(l.Periods, api.MaxPeriods) {
		return api.ErrPeriod
	}
	seen := make(map[string]bool, len(l.Signs))
	for _, s := range l.Signs {
		if !isCode(s.Code) || seen[s.Code] {
			return api.ErrCode
		}
		seen[s.Code] = true
		if e := checkSign(s, l.Periods); e != api.OK {
			return e
		}
	}
	return api.OK
}

// checkSign returns the first error of a sign but for those of its code.
func checkSign(s api.Sign, periods int) api.Errno {
	if !within(s.Wide, api.MaxSize) || !within(s.High, api.MaxSize) {
		return api.ErrSize
	}
	if len(s.Values) > api.MaxValues {
		return api.ErrMany
	}
	for i, v := range s.Values {
		if e := checkValue(v, s.Values[:i], periods); e != api.OK {
			return e
		}
	}
	return api.OK
}

func checkValue(v api.Value, before []api.Value, periods int) api.Errno {
	if !isKind(v.Kind) || !isText(v.Kind, v.Text) {
		return api.ErrValue
	}
	if v.From < 1 || v.From > v.To || v.To > periods {
		return api.ErrPeriod
	}
	for _, b := range before {
		if collide(b, v) {
			return api.ErrValue
		}
	}
	return api.OK
}

func collide(a, b api.Value) bool {
	return meaningOf(a) == meaningOf(b) && a.From <= b.To && b.From <= a.To
}

func isKind(kind int) bool {
	return sound <= kind && kind <= class
}

func isCode(code string) bool {
	if !within(len(code), api.MaxCode) || !isCapital(code[0]) {
		return false
	}
	for i := range len(code) {
		if !isLetter(code[i]) && !isDigit(code[i]) {
			return false
		}
	}
	return true
}

// isText reports whether a text is valid for a value of a kind.
func isText(kind int, text string) bool {
	if !within(len(text), api.MaxSounds) {
		return false
	}
	for i := range len(text) {
		if !isLetter(text[i]) || kind == class && isCapital(text[i]) {
			return false
		}
	}
	return true
}

// within reports whether n is from 1 to most.
func within(n, most int) bool {
	return 1 <= n && n <= most
}

func isCapital(b byte) bool {
	return 'A' <= b && b <= 'Z'
}

func isLetter(b byte) bool {
	return isCapital(b) || 'a' <= b && b <= 'z'
}

func isDigit(b byte) bool {
	return '0' <= b && b <= '9'
}
