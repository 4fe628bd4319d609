package sign

import (
	"slices"

	"tactus/api"
	"tactus/words"
)

// Check tells whether p is a valid part, or else what is wrong with which of its signs.
func Check(p api.Part) (api.Errno, int) {
	if !words.Name(p.Name) {
		return api.ErrName, 0
	}
	if len(p.Signs) > api.MaxSigns {
		return api.ErrFull, 0
	}
	for i := range len(p.Signs) {
		if e := One(p.Signs[i]); e != api.OK {
			return e, i
		}
		if !isJoined(p.Signs, i) {
			return api.ErrForm, i
		}
	}
	return api.OK, 0
}

// Timed returns the numbers of the notes, rests and notes of ligatures.
func Timed(p api.Part) ([]int, api.Errno) {
	if e, _ := Check(p); e != api.OK {
		return nil, e
	}
	var timed []int
	for i := range len(p.Signs) {
		if class, _ := Class(p.Signs[i].Kind); class == timedClass {
			timed = append(timed, i)
		}
	}
	return timed, api.OK
}

// Ligatures returns the numbers of the first and of the last sign of each ligature.
func Ligatures(p api.Part) ([]int, []int, api.Errno) {
	if e, _ := Check(p); e != api.OK {
		return nil, nil, e
	}
	var firsts, lasts []int
signs:
	for first := range len(p.Signs) {
		if !isFirst(p.Signs, first) {
			continue signs
		}
		for last := first + 1; last < len(p.Signs); last++ {
			if p.Signs[last].Last {
				firsts, lasts = append(firsts, first), append(lasts, last)
				continue signs
			}
		}
	}
	return firsts, lasts, api.OK
}

// Count returns how many signs of each kind there are, those of the kind Note first.
func Count(p api.Part) ([]int, api.Errno) {
	if e, _ := Check(p); e != api.OK {
		return nil, e
	}
	counts := make([]int, api.Signum)
	for i := range len(p.Signs) {
		counts[p.Signs[i].Kind-api.Note]++
	}
	return counts, api.OK
}

// Same tells whether two parts, valid or not, are equal in everything.
func Same(a, b api.Part) bool {
	return a.Name == b.Name && slices.Equal(a.Signs, b.Signs)
}

// isJoined tells whether the sign i, if it is Tied, has the neighbour with which it makes a ligature; all signs before it are valid.
func isJoined(l []api.Sign, i int) bool {
	if l[i].Kind != api.Tied {
		return true
	}
	if l[i].Last {
		return !isFirst(l, i)
	}
	return i+1 < len(l) && l[i+1].Kind == api.Tied
}

// isFirst tells whether the sign i is the first one of a ligature.
func isFirst(l []api.Sign, i int) bool {
	return l[i].Kind == api.Tied && (i == 0 || l[i-1].Kind != api.Tied || l[i-1].Last)
}
