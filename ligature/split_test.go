package ligature_test

import (
	"slices"
	"testing"

	"tactus/api"
	"tactus/ligature"
)

// ligatable tells, by from and to, which runs of notes are single ones or can be ligated.
func ligatable(places, values []int) [13][13]bool {
	var can [13][13]bool
	for from := range places {
		can[from][from+1] = true
		for to := from + 2; to <= len(places); to++ {
			can[from][to] = len(searched(places[from:to], values[from:to])) > 0
		}
	}
	return can
}

// divided goes through all ways to divide the notes, and keeps the one with the fewest pieces, then with the greatest list of lengths.
func divided(places, values []int) []int {
	can := ligatable(places, values)
	var best []int
cuts:
	for cuts := range 1 << (len(places) - 1) {
		var lengths []int
		from := 0
		for to := 1; to <= len(places); to++ {
			if to < len(places) && cuts>>(to-1)&1 == 0 {
				continue
			}
			if !can[from][to] {
				continue cuts
			}
			lengths = append(lengths, to-from)
			from = to
		}
		if best == nil || len(lengths) < len(best) || len(lengths) == len(best) && slices.Compare(lengths, best) > 0 {
			best = lengths
		}
	}
	return best
}

// checkSplit compares Split with divided.
func checkSplit(t *testing.T, places, values []int) {
	want := divided(places, values)
	if lengths, e := ligature.Split(places, values); e != api.OK || !slices.Equal(lengths, want) {
		t.Errorf("Split(%v, %v): %v %v, not %v", places, values, lengths, e, want)
	}
}

// P7.4: all lists of two and three notes, and many of four.
func TestSplitFew(t *testing.T) {
	for n := 2; n <= 4; n++ {
		values := tuples(n, 1, 2, 3, 4, 5)
		if n == 4 {
			values = tuples(n, 2, 3, 4)
		}
		for _, places := range tuples(n, 1, 2, 4) {
			for _, v := range values {
				checkSplit(t, places, v)
			}
		}
	}
}

// P7.4: longer lists, up to twelve notes.
func TestSplitMany(t *testing.T) {
	roll := dice(11)
	for n := 5; n <= 12; n++ {
		for range 15 {
			places, values := listed(roll, n)
			checkSplit(t, places, values)
		}
	}
}

// P7.4: the document's examples, and divisions with as many pieces.
func TestSplitExamples(t *testing.T) {
	for _, c := range []struct {
		places, values, want []int
	}{
		{[]int{4, 2, 3}, []int{s, s, b}, []int{3}}, {[]int{4, 4, 2}, []int{b, b, l}, []int{1, 2}}, {[]int{2, 4}, []int{5, 5}, []int{1, 1}},
		{[]int{4, 4, 4}, []int{l, l, l}, []int{1, 1, 1}}, {[]int{5, 3, 1, 1, 2}, []int{s, s, b, b, b}, []int{3, 2}}, {[]int{4, 2}, []int{l, l}, []int{2}}, {[]int{4, 2, 4}, []int{1, b, l}, []int{1, 2}},
		// Each semibreve can be joined only to the other one of its pair.
		{[]int{1, 2, 3, 4}, []int{s, s, s, s}, []int{2, 2}}, {[]int{1, 2, 3, 4, 5}, []int{b, s, s, s, s}, []int{1, 2, 2}}, {[]int{1, 2, 3}, []int{s, s, s}, []int{2, 1}}, {[]int{1, 2, 3, 4}, []int{s, s, b, s}, []int{3, 1}},
		// The third note can be joined to the first two or to the last two.
		{[]int{1, 2, 3, 3, 2}, []int{b, b, b, b, l}, []int{3, 2}}, {[]int{1, 2, 1, 1, 2}, []int{b, b, 5, b, b}, []int{2, 1, 2}}, {[]int{1, 2, 2, 1}, []int{s, b, s, s}, []int{1, 1, 2}},
		{[]int{1, 2, 3, 4, 5, 6, 7, 8, 9, 10, 11, 12}, slices.Repeat([]int{b}, 12), []int{12}}, {slices.Repeat([]int{1}, 12), slices.Repeat([]int{b}, 12), slices.Repeat([]int{1}, 12)}, {slices.Repeat([]int{2, 1}, 6), slices.Repeat([]int{s}, 12), slices.Repeat([]int{2}, 6)},
	} {
		if lengths, e := ligature.Split(c.places, c.values); e != api.OK || !slices.Equal(lengths, c.want) {
			t.Errorf("Split(%v, %v): %v %v, not %v", c.places, c.values, lengths, e, c.want)
		}
	}
}
