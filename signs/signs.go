// Package signs describes sign lists: it checks them, finds signs by their
// values, names, restricts and merges them, and reads and writes them as text.
// See shared/doc/01-signs.md.
package signs

import (
	"slices"
	"strconv"

	"ostracon/api"
)

// Find returns the number of the sign with a code.
func Find(l api.List, code string) (int, api.Errno) {
	if e := Check(l); e != api.OK {
		return 0, e
	}
	number, ok := numbers(l.Signs)[code]
	if !ok {
		return 0, api.ErrNone
	}
	return number, api.OK
}

// numbers returns the number of each sign by its code.
func numbers(signs []api.Sign) map[string]int {
	byCode := make(map[string]int, len(signs))
	for i, s := range signs {
		byCode[s.Code] = i
	}
	return byCode
}

// Values returns the values of a sign that are in use in a period, in order.
func Values(l api.List, sign, period int) ([]api.Value, api.Errno) {
	if e := checkSignInPeriod(l, sign, period); e != api.OK {
		return nil, e
	}
	return valuesIn(l.Signs[sign].Values, period), api.OK
}

func valuesIn(values []api.Value, period int) []api.Value {
	var used []api.Value
	for _, v := range values {
		if inUse(v, period) {
			used = append(used, v)
		}
	}
	return used
}

// Bearers returns the signs that have a value in use in a period, in ascending order.
func Bearers(l api.List, kind int, text string, period int) ([]int, api.Errno) {
	if e := Check(l); e != api.OK {
		return nil, e
	}
	if !isKind(kind) {
		return nil, api.ErrArg
	}
	if !within(period, l.Periods) {
		return nil, api.ErrPeriod
	}
	return bearers(l, meaning{kind, text}, period), api.OK
}

func bearers(l api.List, m meaning, period int) []int {
	var found []int
	for i, s := range l.Signs {
		if bears(s, m, period) {
			found = append(found, i)
		}
	}
	return found
}

func bears(s api.Sign, m meaning, period int) bool {
	for _, v := range s.Values {
		if meaningOf(v) == m && inUse(v, period) {
			return true
		}
	}
	return false
}

// Name returns the name under which a sign is cited for one of its sounds.
func Name(l api.List, sign int, text string, period int) (string, api.Errno) {
	if e := checkSignInPeriod(l, sign, period); e != api.OK {
		return "", e
	}
	at := slices.Index(bearers(l, meaning{sound, text}, period), sign)
	switch at {
	case -1:
		return "", api.ErrNone
	case 0:
		return text, api.OK
	}
	return text + strconv.Itoa(at+1), api.OK
}

// ParseName returns the sign and the text that have a name.
func ParseName(l api.List, name string, period int) (sign int, text string, e api.Errno) {
	if e := Check(l); e != api.OK {
		return 0, "", e
	}
	if !within(period, l.Periods) {
		return 0, "", api.ErrPeriod
	}
	text, place, ok := splitName(name)
	if !ok {
		return 0, "", api.ErrForm
	}
	found := bearers(l, meaning{sound, text}, period)
	if place > len(found) {
		return 0, "", api.ErrNone
	}
	return found[place-1], text, api.OK
}

// splitName returns the text of a name and the place that it cites, 1 if it cites none.
func splitName(name string) (text string, place int, ok bool) {
	end := 0
	for end < len(name) && isLetter(name[end]) {
		end++
	}
	text = name[:end]
	if !isText(sound, text) {
		return "", 0, false
	}
	if end == len(name) {
		return text, 1, true
	}
	place, ok = parsePlace(name[end:])
	return text, place, ok
}

// parsePlace reads a number from 2 on that may have any length; no list has as
// many signs as MaxSigns+1, so all greater places are as good as this one.
func parsePlace(digits string) (place int, ok bool) {
	if digits[0] == '0' {
		return 0, false
	}
	for i := range len(digits) {
		if !isDigit(digits[i]) {
			return 0, false
		}
		place = min(place*10+int(digits[i]-'0'), api.MaxSigns+1)
	}
	return place, place >= 2
}

// Size returns the size of a sign that is turned by quarters of a circle.
func Size(l api.List, sign, turn int) (wide, high int, e api.Errno) {
	if e := Check(l); e != api.OK {
		return 0, 0, e
	}
	if !hasSign(l, sign) || turn < 0 || turn > 3 {
		return 0, 0, api.ErrArg
	}
	s := l.Signs[sign]
	if turn == 1 || turn == 3 {
		return s.High, s.Wide, api.OK
	}
	return s.Wide, s.High, api.OK
}

// checkSignInPeriod returns the first error of a list, of the number of a sign
// and of a period, in this order.
func checkSignInPeriod(l api.List, sign, period int) api.Errno {
	if e := Check(l); e != api.OK {
		return e
	}
	if !hasSign(l, sign) {
		return api.ErrArg
	}
	if !within(period, l.Periods) {
		return api.ErrPeriod
	}
	return api.OK
}

func hasSign(l api.List, sign int) bool {
	return 0 <= sign && sign < len(l.Signs)
}
