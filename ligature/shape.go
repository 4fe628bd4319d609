package ligature

import (
	"iter"
	"slices"

	"tactus/api"
)

// Shape returns the first shape, in the order of the chapter, with these places and values.
func Shape(places, values []int) ([]api.Sign, api.Errno) {
	if e := checkLists(places, values); e != api.OK {
		return nil, e
	}
	var best []api.Sign
	var least []int
	for l := range shapes(places, values) {
		// Of shapes with the same rank the one that is tried first stays.
		if r := rank(l); best == nil || slices.Compare(r, least) < 0 {
			best, least = slices.Clone(l), r
		}
	}
	if best == nil {
		return nil, api.ErrNone
	}
	return best, api.OK
}

// Can reports whether the values can be ligated at these places.
func Can(places, values []int) (bool, api.Errno) {
	if e := checkLists(places, values); e != api.OK {
		return false, e
	}
	return can(places, values), api.OK
}

// Count returns the number of valid shapes with these places and values.
func Count(places, values []int) (int, api.Errno) {
	if e := checkLists(places, values); e != api.OK {
		return 0, e
	}
	n := 0
	for range shapes(places, values) {
		n++
	}
	return n, api.OK
}

// checkLists tells whether places and values are those of a number of notes that can be ligated.
func checkLists(places, values []int) api.Errno {
	if !isSize(len(places)) {
		return api.ErrFull
	}
	if len(values) != len(places) {
		return api.ErrForm
	}
	for i := range places {
		if !isPlace(places[i]) || values[i] < api.Maxima || values[i] > api.Semifusa {
			return api.ErrRange
		}
	}
	return api.OK
}

// can tells whether there is a shape with these places and values, whose numbers are the same.
func can(places, values []int) bool {
	for range shapes(places, values) {
		return true
	}
	return false
}

// shapes gives all valid shapes with these places and values, each in memory that the next one uses again. They come in order, note by note: a note without Oblique before one with it, and then by stems.
func shapes(places, values []int) iter.Seq[[]api.Sign] {
	return func(yield func([]api.Sign) bool) {
		asked := rules()
		l := make([]api.Sign, 0, len(places))
		var goOn func() bool
		goOn = func() bool {
			n := len(l)
			if n == len(places) {
				return yield(l)
			}
			for _, oblique := range []bool{false, true} {
				for stem := range api.StemRight + 1 {
					l = append(l, api.Sign{Kind: api.Tied, Place: places[n], Stem: stem, Oblique: oblique, Last: n == len(places)-1})
					more := !isHopeful(asked, l, values) || goOn()
					l = l[:n]
					if !more {
						return false
					}
				}
			}
			return true
		}
		goOn()
	}
}

// isHopeful tells whether the notes that the newest one settles are valid and have their values. A note depends on the one after it, so that the newest one settles itself only if it is Last.
func isHopeful(asked []rule, l []api.Sign, values []int) bool {
	newest := len(l) - 1
	isRight := func(i int) bool { return isFormed(l, i) && valueOf(asked, l, i) == values[i] }
	return (newest == 0 || isRight(newest-1)) && (!l[newest].Last || isRight(newest))
}

// rank returns what the order of shapes looks at first: Obliques, StemRights, and the first stem.
func rank(l []api.Sign) []int {
	obliques, rights := 0, 0
	for _, s := range l {
		if s.Oblique {
			obliques++
		}
		if s.Stem == api.StemRight {
			rights++
		}
	}
	return []int{obliques, rights, l[0].Stem}
}
