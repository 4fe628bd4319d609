package dot_test

import (
	"math"
	"slices"
	"strings"

	"tactus/api"
)

// letters are those of the values, from the maxima to the semifusa.
const letters = "XLBSMQFZ"

// note, colored and rest are the signs of a value; point is a dot.
func note(v int) api.Sign    { return api.Sign{Kind: api.Note, Value: v} }
func colored(v int) api.Sign { return api.Sign{Kind: api.Note, Value: v, Color: true} }
func rest(v int) api.Sign    { return api.Sign{Kind: api.Rest, Value: v} }
func point() api.Sign        { return api.Sign{Kind: api.Dot} }

// run is the run that a text is: letters of values, r before that of a rest, * before that of a colored note, points for dots.
func run(text string) []api.Sign {
	var l []api.Sign
	s := api.Sign{Kind: api.Note}
	for _, c := range strings.ReplaceAll(text, " ", "") {
		switch c {
		case 'r':
			s.Kind = api.Rest
			continue
		case '*':
			s.Color = true
			continue
		case '.':
			s = point()
		default:
			s.Value = strings.IndexRune(letters, c) + 1
		}
		l = append(l, s)
		s = api.Sign{Kind: api.Note}
	}
	return l
}

// made is a mensuration.
func made(max, mod, tem, pro int) api.Mens { return api.Mens{Max: max, Mod: mod, Tem: tem, Pro: pro} }

// named are the mensurations of the examples.
func named() map[string]api.Mens {
	return map[string]api.Mens{"O": made(2, 2, 3, 2), "C": made(2, 2, 2, 2), "C.": made(2, 2, 2, 3), "23O": made(2, 3, 3, 2), "33O.": made(3, 3, 3, 3), "32C.": made(3, 2, 2, 3)}
}

// allMens are the sixteen mensurations.
func allMens() []api.Mens {
	var all []api.Mens
	for n := range 16 {
		all = append(all, made(2+n/8, 2+n/4%2, 2+n/2%2, 2+n%2))
	}
	return all
}

// noMens are mensurations that are none.
func noMens() []api.Mens {
	all := []api.Mens{{}, made(2, 2, 3, 4), made(1, 2, 2, 2), made(2, 1, 3, 3), made(3, 3, 0, 3), made(4, 4, 4, 4), made(-3, 2, 2, 2)}
	for _, n := range []int{math.MinInt, -1, 0, 1, 4, 258, 1<<32 + 2, math.MaxInt} {
		all = append(all, made(n, 2, 2, 2), made(2, n, 3, 2), made(3, 3, n, 3), made(2, 2, 3, n))
	}
	return all
}

// anyInts are ints of all sizes.
func anyInts() []int {
	ints := []int{math.MinInt, math.MinInt + 1, math.MinInt + 3, math.MinInt / 2, math.MinInt32, -1 << 32, -257, -256, 255, 256, 257, 259, 1 << 16, 1 << 31, 1 << 32, 1<<32 + 1, 1<<32 + 3, 1 << 62, math.MaxInt - 1, math.MaxInt}
	for n := -20; n <= 80; n++ {
		ints = append(ints, n)
	}
	return ints
}

// isPerfect tells whether v is a perfect value.
func isPerfect(m api.Mens, v int) bool {
	return v >= 1 && v <= 4 && []int{m.Max, m.Mod, m.Tem, m.Pro}[v-1] == 3
}

// isNearest tells whether w is the nearest perfect value that is greater than v.
func isNearest(m api.Mens, v, w int) bool {
	if w >= v || !isPerfect(m, w) {
		return false
	}
	for between := w + 1; between < v; between++ {
		if isPerfect(m, between) {
			return false
		}
	}
	return true
}

// means tells whether w is a meaning of a dot that follows s.
func means(m api.Mens, s api.Sign, w int) bool {
	switch {
	case s.Kind == api.Rest:
		return isNearest(m, s.Value, w)
	case s.Color:
		return w == 0
	case isPerfect(m, s.Value):
		return w == s.Value || isNearest(m, s.Value, w)
	}
	return w == 0 || isNearest(m, s.Value, w)
}

// meaningsOf tries all numbers as meanings of a dot that follows s.
func meaningsOf(m api.Mens, s api.Sign) []int {
	var all []int
	for w := range 9 {
		if means(m, s, w) {
			all = append(all, w)
		}
	}
	return all
}

// verdict goes through the errors of the signs of a run; the mensuration is valid.
func verdict(m api.Mens, l []api.Sign) api.Errno {
	for i, s := range l {
		timed := s.Kind == api.Note || s.Kind == api.Rest
		switch {
		case !timed && s.Kind != api.Dot:
			return api.ErrKind
		case timed && !slices.Contains([]int{1, 2, 3, 4, 5, 6, 7, 8}, s.Value):
			return api.ErrRange
		case !timed && (i == 0 || l[i-1].Kind == api.Dot || len(meaningsOf(m, l[i-1])) == 0):
			return api.ErrDot
		}
	}
	return api.OK
}

// dots are the numbers of the dots of a run.
func dots(l []api.Sign) []int {
	var all []int
	for i, s := range l {
		if s.Kind == api.Dot {
			all = append(all, i)
		}
	}
	return all
}

// allMeanings are the meanings of each dot of a valid run.
func allMeanings(m api.Mens, l []api.Sign) [][]int {
	var all [][]int
	for _, i := range dots(l) {
		all = append(all, meaningsOf(m, l[i-1]))
	}
	return all
}

// ruled are the meanings by the rule of the dots of a valid run.
func ruled(m api.Mens, l []api.Sign) []int {
	var all []int
	for _, i := range dots(l) {
		s, next := l[i-1], -1
		for k := len(l) - 1; k > i; k-- {
			if l[k].Kind != api.Dot {
				next = l[k].Value
			}
		}
		smaller := next == -1 || next > s.Value
		var fit []int
		for _, w := range meaningsOf(m, s) {
			if (w == 0 || w == s.Value) == smaller {
				fit = append(fit, w)
			}
		}
		if len(meaningsOf(m, s)) == 1 {
			fit = meaningsOf(m, s)
		}
		all = append(all, fit...)
	}
	return all
}

// lists are all lists of one of each of these numbers, in lexicographic order.
func lists(of [][]int) [][]int {
	if len(of) == 0 {
		return [][]int{nil}
	}
	var all [][]int
	for _, w := range of[0] {
		for _, more := range lists(of[1:]) {
			all = append(all, append([]int{w}, more...))
		}
	}
	return all
}

// marked are the cuts and the additions of a valid run whose dots have these meanings.
func marked(l []api.Sign, list []int) ([]int, []bool) {
	var cuts []int
	var adds []bool
	for i, s := range l {
		if s.Kind == api.Dot {
			continue
		}
		cut, add := 0, false
		if i+1 < len(l) && l[i+1].Kind == api.Dot {
			w := list[len(dots(l[:i]))]
			cut, add = w, w == 0
		}
		cuts, adds = append(cuts, cut), append(adds, add)
	}
	return cuts, adds
}

// tuples are all lists of up to most of some signs.
func tuples(most int, from ...api.Sign) [][]api.Sign {
	all := [][]api.Sign{nil}
	longest := all
	for range most {
		var more [][]api.Sign
		for _, l := range longest {
			for _, s := range from {
				more = append(more, append(slices.Clone(l), s))
			}
		}
		all, longest = append(all, more...), more
	}
	return all
}

// signsOf are a note, a colored note and a rest of each of these values, and a dot.
func signsOf(values ...int) []api.Sign {
	all := []api.Sign{point()}
	for _, v := range values {
		all = append(all, note(v), colored(v), rest(v))
	}
	return all
}

// shortRuns are all lists of up to three notes, rests and dots, of up to four with values about the perfect ones, and of up to six of a few.
func shortRuns() [][]api.Sign {
	all := tuples(3, signsOf(1, 2, 3, 4, 5, 6, 7, 8)...)
	all = append(all, tuples(4, signsOf(2, 3, 4, 5)...)...)
	return append(all, tuples(6, point(), note(2), note(3), note(4), rest(4))...)
}

// validRuns calls f with all mensurations and the short runs that are valid.
func validRuns(f func(m api.Mens, l []api.Sign)) {
	// Where all values can be perfect each dot has the most meanings, so a run that is not valid there is valid nowhere.
	short := slices.DeleteFunc(shortRuns(), func(l []api.Sign) bool { return verdict(made(3, 3, 3, 3), l) != api.OK })
	for _, m := range allMens() {
		for _, l := range short {
			if verdict(m, l) == api.OK {
				f(m, l)
			}
		}
	}
}
