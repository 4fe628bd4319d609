package dot

import (
	"slices"

	"tactus/api"
	"tactus/mens"
)

const (
	none    = 0 // no value
	perfect = 3
)

// adding is the meaning of a dot that adds; every other meaning is the value at which the dot divides.
const adding = 0

// meaningsAfter returns the meanings, ascending, of a dot that follows s; there are none if no dot may follow it.
func meaningsAfter(m api.Mens, s api.Sign) []int {
	if s.Kind == api.Note && s.Color {
		return []int{adding}
	}
	var all []int
	if s.Kind == api.Note {
		all = append(all, ownMeaning(m, s.Value))
	}
	if above, _ := mens.Above(m, s.Value); above != none {
		all = append(all, above)
	}
	slices.Sort(all)
	return all
}

// ownMeaning returns what a dot after an uncolored note v means if it does not divide at a greater value than v.
func ownMeaning(m api.Mens, v int) int {
	if parts, _ := mens.Parts(m, v); parts == perfect {
		return v
	}
	return adding
}

// byRule returns the meaning by the rule of a dot that follows the note or rest s, and has these signs after it.
func byRule(m api.Mens, s api.Sign, after []api.Sign) int {
	all := meaningsAfter(m, s)
	if len(all) == 1 {
		return all[0]
	}
	// No dot directly follows a dot, so the sign after it is the next note or rest.
	if len(after) == 0 || after[0].Value > s.Value {
		return ownMeaning(m, s.Value)
	}
	above, _ := mens.Above(m, s.Value)
	return above
}
