package clef

import (
	"iter"

	"tactus/api"
	"tactus/pitch"
)

// Best returns the clef that needs the fewest ledger lines for all pitches together.
func Best(key int, l []api.Pitch) (api.Clef, api.Errno) {
	if e := checkKey(key); e != api.OK {
		return api.Clef{}, e
	}
	for _, p := range l {
		if e := pitch.Check(p); e != api.OK {
			return api.Clef{}, e
		}
	}
	best, e := api.Clef{}, api.ErrNone
	isLeast := leastSoFar()
	for c := range clefs() {
		if n, has := ledgersOf(c, key, l); has && isLeast(n) {
			best, e = c, api.OK
		}
	}
	return best, e
}

// clefs gives all valid clefs, by ascending steps, then lines.
func clefs() iter.Seq[api.Clef] {
	return func(yield func(api.Clef) bool) {
		for _, p := range clefPitches {
			for i := range lines {
				if !yield(api.Clef{Step: p.Step, Line: i + 1}) {
					return
				}
			}
		}
	}
}

// leastSoFar returns a function that tells whether a number is less than all the numbers that it was given before.
func leastSoFar() func(n int) bool {
	least, given := 0, false
	return func(n int) bool {
		if given && n >= least {
			return false
		}
		least, given = n, true
		return true
	}
}

// ledgersOf returns how many ledger lines valid pitches need together under c, if all of them have places.
func ledgersOf(c api.Clef, key int, l []api.Pitch) (int, bool) {
	sum := 0
	for _, p := range l {
		place, _, e := Place(c, key, p)
		if e != api.OK {
			return 0, false
		}
		n, _ := Ledgers(place)
		sum += n
	}
	return sum, true
}
