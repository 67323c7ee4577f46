package induce

import "ostracon/api"

// places is a set of places of a line. A line has at most MaxLine signs, so it
// has less than 64 places.
type places uint64

func placeSet(place int) places { return 1 << place }

func (s places) has(place int) bool { return s&placeSet(place) != 0 }

// ways has, for each place of a line, where the wanted words from there on end.
type ways struct {
	signs int
	ends  [api.MaxLine + 1]places
}

// ways returns those of the words of the wanted entries.
func (l line) ways(wanted choice) ways {
	w := ways{signs: l.signs}
	for _, x := range l.words {
		if wanted(x.entry) {
			w.ends[x.from] |= placeSet(x.to)
		}
	}
	return w
}

// readable reports whether words lead through the whole line.
func (w *ways) readable() bool {
	reached := placeSet(0)
	for place := range w.signs {
		if reached.has(place) {
			reached |= w.ends[place]
		}
	}
	return reached.has(w.signs)
}

// routes has the ways of each line of a corpus.
type routes []ways

func (c corpus) routes(wanted choice) routes {
	r := make(routes, len(c))
	for i, l := range c {
		r[i] = l.ways(wanted)
	}
	return r
}

// join puts the routes of the entries of both in place of others.
func (r routes) join(a, b routes) {
	for i := range r {
		r[i].signs = a[i].signs
		for place := range r[i].ends {
			r[i].ends[place] = a[i].ends[place] | b[i].ends[place]
		}
	}
}

func (r routes) readable() bool {
	for i := range r {
		if !r[i].readable() {
			return false
		}
	}
	return true
}
