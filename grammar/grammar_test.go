package grammar_test

import (
	"slices"
	"testing"

	"ostracon/api"
	"ostracon/grammar"
)

func lexicon() api.Lexicon {
	return api.Lexicon{
		Entries: []api.Entry{{Root: "aba", Kind: 1, Class: "c", Weight: 2}, {Root: "ab", Kind: 1}},
		Endings: []api.Ending{{Kind: 1, Text: "ba", Name: "x", Weight: 3}},
		Clitics: []api.Clitic{{Text: "a", Name: "x", Weight: 5}, {Text: "ab", Name: "y", Weight: 7}},
	}
}

// texts are all of up to eight a and b.
func texts() []string {
	all := []string{"c"}
	last := []string{""}
	for range 8 {
		var longer []string
		for _, s := range last {
			longer = append(longer, s+"a", s+"b")
		}
		all = append(all, longer...)
		last = longer
	}
	return all
}

// Follow goes through exactly the uses that Take allows, with what Take returns.
func TestFollow(t *testing.T) {
	all := texts()
	for _, f := range []api.Form{{Entry: 0, Ending: 0, Clitics: []int{0, 1}}, {Entry: 1, Ending: -1, Clitics: []int{1}}, {Entry: 1, Ending: 0}} {
		w := grammar.WordingOf(lexicon(), f)
		seen := map[grammar.Progress]bool{{}: true}
		for waiting := []grammar.Progress{{}}; len(waiting) > 0; waiting = waiting[1:] {
			p := waiting[0]
			found := map[api.Use]grammar.Progress{}
			for u, next := range w.Follow(p) {
				if _, twice := found[u]; twice {
					t.Errorf("behind %v of %v, %v comes twice", p, f, u)
				}
				found[u] = next
				if !seen[next] {
					seen[next] = true
					waiting = append(waiting, next)
				}
			}
			for kind := range 5 {
				for _, text := range all {
					u := api.Use{Kind: kind, Text: text}
					next, ok := w.Take(p, u)
					if got, followed := found[u]; ok != followed || ok && got != next {
						t.Errorf("behind %v of %v, Take of %v is %v, %t, and in Follow %v, %t", p, f, u, next, ok, got, followed)
					}
				}
			}
		}
		if len(seen) < 6 {
			t.Errorf("of %v only %d states were seen", f, len(seen))
		}
	}
}

// A loop over Follow may be left.
func TestFollowStops(t *testing.T) {
	w := grammar.WordingOf(lexicon(), api.Form{Entry: 0, Ending: -1})
	for range w.Follow(grammar.Progress{}) {
		break
	}
}

func TestCosts(t *testing.T) {
	costs := api.Costs{Spell: 10, Stand: 200, Repeat: 3000, Close: 40000, Open: 500000}
	closing := grammar.WordingOf(lexicon(), api.Form{Entry: 0, Ending: 0, Clitics: []int{1}})
	plain := grammar.WordingOf(lexicon(), api.Form{Entry: 1, Ending: -1})
	var uses []api.Use
	for _, kind := range []int{api.Stands, api.Repeats, api.Spells, api.Spells} {
		uses = append(uses, api.Use{Kind: kind, Text: "a"})
	}
	for _, x := range []struct {
		w    grammar.Wording
		uses []api.Use
		want int
	}{
		{closing, nil, 500012}, {plain, nil, 0},
		{closing, uses, 503232}, {plain, uses, 3220},
		{closing, append(slices.Clip(uses), api.Use{Kind: api.Closes, Text: "c"}), 43232},
	} {
		if got := x.w.Cost(costs, x.uses); got != x.want {
			t.Errorf("Cost of %v with %v = %d, want %d", x.w, x.uses, got, x.want)
		}
	}
}
