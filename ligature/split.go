package ligature

import "tactus/api"

// division is the best way to divide the notes from one of them on: the length of its first piece, and how many pieces it has.
type division struct {
	first  int
	pieces int
}

// Split returns the lengths of the fewest pieces that are single notes or can be ligated.
func Split(places, values []int) ([]int, api.Errno) {
	if e := checkLists(places, values); e != api.OK {
		return nil, e
	}
	best := divisions(places, values)
	var lengths []int
	for from := 0; from < len(places); from += best[from].first {
		lengths = append(lengths, best[from].first)
	}
	return lengths, api.OK
}

// divisions returns the best division from each note on, and the empty one after the last note.
func divisions(places, values []int) []division {
	best := make([]division, len(places)+1)
	for from := len(places) - 1; from >= 0; from-- {
		best[from] = division{first: 1, pieces: best[from+1].pieces + 1}
		for to := from + leastTied; to <= len(places); to++ {
			// With as many pieces the longer first one makes the list of lengths greater.
			pieces := best[to].pieces + 1
			if pieces <= best[from].pieces && can(places[from:to], values[from:to]) {
				best[from] = division{first: to - from, pieces: pieces}
			}
		}
	}
	return best
}
