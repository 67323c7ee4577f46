package annals

import "ostracon/api"

// Check returns the first error of annals.
func Check(a api.Annals) api.Errno {
	if len(a.Points) > api.MaxPoints || len(a.Facts) > api.MaxFacts || len(a.Reigns) > api.MaxReigns {
		return api.ErrMany
	}
	if !areNames(a.Points...) {
		return api.ErrPoint
	}
	for _, f := range a.Facts {
		if !areApart(a, f.From, f.To) || f.Low < -api.MaxYear || f.Low > f.High || f.High > api.MaxYear {
			return api.ErrFact
		}
	}
	kings := make([]string, len(a.Reigns))
	for i, r := range a.Reigns {
		if !areApart(a, r.Start, r.End) {
			return api.ErrReign
		}
		kings[i] = r.King
	}
	if !areNames(kings...) {
		return api.ErrReign
	}
	return api.OK
}

// areNames reports whether words are names, and no two of them are the same.
func areNames(words ...string) bool {
	seen := make(map[string]bool, len(words))
	for _, word := range words {
		if !isName(word) || seen[word] {
			return false
		}
		seen[word] = true
	}
	return true
}

func isName(word string) bool {
	if len(word) < 1 || len(word) > api.MaxName {
		return false
	}
	for i := range len(word) {
		if c := word[i]; (c < 'a' || c > 'z') && (c < 'A' || c > 'Z') && (c < '0' || c > '9') {
			return false
		}
	}
	return true
}

// arePoints reports whether all numbers are those of points.
func arePoints(a api.Annals, numbers ...int) bool {
	for _, number := range numbers {
		if number < 0 || number >= len(a.Points) {
			return false
		}
	}
	return true
}

// areApart reports whether two numbers are those of two points.
func areApart(a api.Annals, one, two int) bool {
	return arePoints(a, one, two) && one != two
}

func isReign(a api.Annals, number int) bool {
	return number >= 0 && number < len(a.Reigns)
}
