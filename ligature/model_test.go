package ligature_test

import (
	"math"
	"slices"

	"tactus/api"
)

// The values that ligatures have.
const (
	l = api.Long
	b = api.Breve
	s = api.Semibreve
)

// drawn is a ligature at some places, without stems and slanted bodies.
func drawn(places ...int) []api.Sign {
	var out []api.Sign
	for i, p := range places {
		out = append(out, api.Sign{Kind: api.Tied, Place: p, Last: i == len(places)-1})
	}
	return out
}

// stemmed is x with a stem at the note i.
func stemmed(x []api.Sign, i, stem int) []api.Sign {
	x = slices.Clone(x)
	x[i].Stem = stem
	return x
}

// slanted is x with Oblique at some notes.
func slanted(x []api.Sign, at ...int) []api.Sign {
	x = slices.Clone(x)
	for _, i := range at {
		x[i].Oblique = true
	}
	return x
}

// isFrom tells whether n is from low to high.
func isFrom(n, low, high int) bool { return n >= low && n <= high }

// anyInts are ints of all sizes.
func anyInts() []int {
	ints := []int{
		math.MinInt, math.MinInt + 1, math.MinInt + 4, math.MinInt / 2, math.MinInt32, -1 << 32, -256, -255, -252, 127, 128, 254, 255, 256, 257, 258, 259, 260,
		1 << 16, 1 << 31, 1 << 32, 1<<32 + 1, 1<<32 + 2, 1<<32 + 3, 1<<32 + 4, 1 << 62, math.MaxInt / 2, math.MaxInt - 12, math.MaxInt - 4, math.MaxInt - 1, math.MaxInt,
	}
	for n := -30; n <= 30; n++ {
		ints = append(ints, n)
	}
	return ints
}

// mayBeOblique tells whether Oblique may stand at the note i.
func mayBeOblique(x []api.Sign, i int) bool {
	return i+1 < len(x) && x[i+1].Place < x[i].Place && !x[i+1].Oblique
}

// verdict goes through the errors of P7.1 in their order.
func verdict(x []api.Sign) (api.Errno, int) {
	if len(x) < 2 || len(x) > 12 {
		return api.ErrFull, 0
	}
	for i, n := range x {
		plain := n
		plain.Kind, plain.Place, plain.Acc, plain.Color, plain.Stem, plain.Oblique, plain.Last = 0, 0, 0, false, 0, false, false
		switch {
		case n.Kind != 4:
			return api.ErrKind, i
		case !isFrom(n.Place, -4, 12):
			return api.ErrRange, i
		case !isFrom(n.Acc, -1, 2):
			return api.ErrRange, i
		case !isFrom(n.Stem, 0, 3):
			return api.ErrRange, i
		case n.Last && i < len(x)-1, !n.Last && i == len(x)-1:
			return api.ErrForm, i
		case plain != api.Sign{}:
			return api.ErrForm, i
		case i > 0 && (n.Stem == 1 || n.Stem == 2):
			return api.ErrForm, i
		case n.Oblique && !mayBeOblique(x, i):
			return api.ErrForm, i
		case i > 0 && x[i-1].Place == n.Place:
			return api.ErrForm, i
		case i < 2 && n.Stem == 3 && x[0].Stem == 1:
			return api.ErrForm, i
		}
	}
	return api.OK, 0
}

// valuesOf applies the five rules to all notes of a valid ligature, one rule after the other.
func valuesOf(x []api.Sign) []int {
	end := len(x) - 1
	values := make([]int, len(x))
	give := func(i, value int) {
		if values[i] == 0 {
			values[i] = value
		}
	}
	for i, n := range x {
		if n.Stem == 3 {
			give(i, l)
		}
	}
	if x[0].Stem == 1 {
		give(0, s)
		give(1, s)
	}
	switch lower, stem := x[1].Place < x[0].Place, x[0].Stem == 2; {
	case lower && !stem:
		give(0, l)
	case lower && stem:
		give(0, b)
	case stem:
		give(0, l)
	default:
		give(0, b)
	}
	switch {
	case x[end-1].Oblique:
		give(end, b)
	case x[end].Place < x[end-1].Place:
		give(end, l)
	default:
		give(end, b)
	}
	for i := range x {
		give(i, b)
	}
	return values
}

// allDrawn are all ligatures at some places, valid or not: each note with each stem, with and without Oblique.
func allDrawn(places ...int) [][]api.Sign {
	all := [][]api.Sign{drawn(places...)}
	for i := range places {
		var more [][]api.Sign
		for _, x := range all {
			for stem := 3; stem >= 0; stem-- {
				more = append(more, slanted(stemmed(x, i, stem), i), stemmed(x, i, stem))
			}
		}
		all = more
	}
	return all
}

// tuples are all lists of n of some numbers.
func tuples(n int, from ...int) [][]int {
	all := [][]int{nil}
	for range n {
		var more [][]int
		for _, t := range all {
			for _, k := range from {
				more = append(more, append(slices.Clone(t), k))
			}
		}
		all = more
	}
	return all
}

// orderKey has what the order of the chapter looks at, in its order.
func orderKey(x []api.Sign) []int {
	var each []int
	obliques, rights := 0, 0
	for _, n := range x {
		oblique, right := 0, 0
		if n.Oblique {
			oblique = 1
		}
		if n.Stem == 3 {
			right = 1
		}
		each = append(each, oblique, right)
		obliques, rights = obliques+oblique, rights+right
	}
	return append([]int{obliques, rights, x[0].Stem}, each...)
}

// first is the first shape in the order of the chapter.
func first(all [][]api.Sign) []api.Sign {
	if len(all) == 0 {
		return nil
	}
	return slices.MinFunc(all, func(x, y []api.Sign) int { return slices.Compare(orderKey(x), orderKey(y)) })
}

// searched finds the valid shapes with some places and values, also of many notes: for each choice of slanted bodies and of the first stem it joins the other stems with which the notes have their values.
func searched(places, values []int) [][]api.Sign {
	var all [][]api.Sign
	for bodies := range 1 << len(places) {
		x := drawn(places...)
		for i := range x {
			x[i].Oblique = bodies>>i&1 == 1
		}
		if e, _ := verdict(x); e != api.OK {
			continue
		}
		for stem := range 4 {
			some := [][]api.Sign{stemmed(x, 0, stem)}
			if e, _ := verdict(some[0]); e != api.OK || valuesOf(some[0])[0] != values[0] {
				continue
			}
			for i := 1; i < len(places); i++ {
				some = withStems(some, i, values[i])
			}
			all = append(all, some...)
		}
	}
	return all
}

// withStems are those of some ligatures, with and without StemRight at the note i, that are valid and of which this note has the value.
func withStems(some [][]api.Sign, i, value int) [][]api.Sign {
	var more [][]api.Sign
	for _, x := range some {
		for _, y := range [][]api.Sign{x, stemmed(x, i, 3)} {
			if e, _ := verdict(y); e == api.OK && valuesOf(y)[i] == value {
				more = append(more, y)
			}
		}
	}
	return more
}

// dice returns a function that gives numbers below n, always the same ones in the same order.
func dice(seed uint32) func(n int) int {
	return func(n int) int {
		seed = seed*1664525 + 1013904223
		return int(seed>>16) % n
	}
}

// listed are places and values of n notes: neighbours now and then at the same place, values that can often be ligated.
func listed(roll func(n int) int, n int) (places, values []int) {
	place := roll(17) - 4
	for range n {
		places = append(places, place)
		values = append(values, []int{l, l, l, b, b, b, b, b, b, s, s, s, 1, 5}[roll(14)])
		place = min(max(place+roll(6)-3, -4), 12)
	}
	return places, values
}

// guarded is a list with room behind it that holds a number, to see whether it is changed.
func guarded[T any](list []T, guard T) []T {
	return append(slices.Clone(list), guard, guard, guard)[:len(list)]
}

// isGuarded tells whether a guarded list and the room behind it are as they were.
func isGuarded[T comparable](list, as []T, guard T) bool {
	whole := list[:len(list)+3]
	return slices.Equal(list, as) && whole[len(list)] == guard && whole[len(list)+1] == guard && whole[len(list)+2] == guard
}
