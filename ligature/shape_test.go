package ligature_test

import (
	"fmt"
	"math"
	"slices"
	"testing"

	"tactus/api"
	"tactus/ligature"
)

// check holds Shape, Can and Count against all shapes that were found with these places and values.
func check(t *testing.T, places, values []int, found [][]api.Sign) {
	want := api.OK
	if len(found) == 0 {
		want = api.ErrNone
	}
	if x, e := ligature.Shape(places, values); e != want || !slices.Equal(x, first(found)) {
		t.Errorf("Shape(%v, %v): %v %v, not %v %v", places, values, x, e, first(found), want)
	}
	if can, e := ligature.Can(places, values); e != api.OK || can != (len(found) > 0) {
		t.Errorf("Can(%v, %v): %v %v, not %v", places, values, can, e, len(found) > 0)
	}
	if n, e := ligature.Count(places, values); e != api.OK || n != len(found) {
		t.Errorf("Count(%v, %v): %d %v, not %d", places, values, n, e, len(found))
	}
}

// P7.3: all values of two, three and four notes, against a search through all shapes.
func TestShapesOfFew(t *testing.T) {
	for n := 2; n <= 4; n++ {
		values := tuples(n, 1, 2, 3, 4, 5, 6, 7, 8)
		if n == 4 {
			values = tuples(n, 1, 2, 3, 4, 5)
		}
		for _, places := range tuples(n, 1, 2, 4) {
			found := map[string][][]api.Sign{}
			for _, x := range allDrawn(places...) {
				if e, _ := verdict(x); e == api.OK {
					key := fmt.Sprint(valuesOf(x))
					found[key] = append(found[key], x)
				}
			}
			for _, v := range values {
				check(t, places, v, found[fmt.Sprint(v)])
			}
		}
	}
}

// P7.3: longer ones, up to twelve notes.
func TestShapesOfMany(t *testing.T) {
	roll := dice(7)
	can := 0
	for n := 2; n <= 12; n++ {
		for range 12 {
			places, values := listed(roll, n)
			check(t, places, values, searched(places, values))
			for i := range places {
				places[i], values[i] = min(i%3*2+roll(2), 12), []int{b, b, b, l}[roll(4)]
				if i < 2 && n%2 == 0 {
					values[i] = s
				}
			}
			found := searched(places, values)
			can += min(len(found), 1)
			check(t, places, values, found)
		}
	}
	if can < 20 {
		t.Errorf("only %d of the lists can be ligated", can)
	}
}

// P7.3: twelve descending notes have the most slanted bodies.
func TestShapesOfTwelve(t *testing.T) {
	places := []int{12, 11, 9, 8, 7, 6, 4, 3, 1, 0, -2, -4}
	for _, c := range []struct {
		first, second, middle, last int
		want                        int
		stem                        int
		slant                       bool
	}{
		// The bodies begin at some of eleven notes that do not touch: 233 choices, 144 without and 89 with one at the last but one.
		{l, b, b, l, 2 * (2*144 + 89), 0, false}, {b, b, b, l, 2*144 + 89, 2, false}, {l, b, b, b, 2 * 89, 0, true}, {b, b, b, b, 89, 2, true},
		{s, s, b, l, 2*144 + 89, 1, false}, {s, s, b, b, 89, 1, true}, {s, b, b, b, 0, 0, false}, {l, s, b, b, 0, 0, false}, {b, b, s, l, 0, 0, false}, {b, b, b, s, 0, 0, false}, {l, b, b, 5, 0, 0, false}, {1, b, b, b, 0, 0, false},
	} {
		values := slices.Concat([]int{c.first, c.second}, slices.Repeat([]int{c.middle}, 9), []int{c.last})
		if n, e := ligature.Count(places, values); n != c.want || e != api.OK {
			t.Errorf("Count(%v): %d %v, not %d", values, n, e, c.want)
		}
		if can, e := ligature.Can(places, values); can != (c.want > 0) || e != api.OK {
			t.Errorf("Can(%v): %v %v", values, can, e)
		}
		want, wantErr := []api.Sign(nil), api.ErrNone
		if c.want > 0 {
			want, wantErr = stemmed(drawn(places...), 0, c.stem), api.OK
			want[10].Oblique = c.slant
		}
		if x, e := ligature.Shape(places, values); e != wantErr || !slices.Equal(x, want) {
			t.Errorf("Shape(%v): %v %v, not %v %v", values, x, e, want, wantErr)
		}
	}
}

// P7.3: the document's examples, and shapes between which only the order decides.
func TestShapeExamples(t *testing.T) {
	for _, c := range []struct {
		places, values []int
		want           []api.Sign
		count          int
	}{
		{[]int{4, 2}, []int{b, l}, stemmed(drawn(4, 2), 0, 2), 3}, {[]int{4, 2}, []int{b, b}, slanted(stemmed(drawn(4, 2), 0, 2), 0), 1}, {[]int{2, 4}, []int{b, l}, stemmed(drawn(2, 4), 1, 3), 1},
		{[]int{4, 2}, []int{s, s}, stemmed(drawn(4, 2), 0, 1), 2}, {[]int{2, 4}, []int{s, s}, stemmed(drawn(2, 4), 0, 1), 1}, {[]int{4, 2}, []int{l, l}, drawn(4, 2), 6}, {[]int{2, 4}, []int{b, b}, drawn(2, 4), 1},
		{[]int{4, 2}, []int{l, b}, slanted(drawn(4, 2), 0), 2}, {[]int{2, 4}, []int{l, b}, stemmed(drawn(2, 4), 0, 2), 2}, {[]int{2, 4}, []int{l, l}, stemmed(stemmed(drawn(2, 4), 0, 2), 1, 3), 2},
		{[]int{4, 2}, []int{s, b}, nil, 0}, {[]int{4, 4}, []int{b, b}, nil, 0}, {[]int{2, 4}, []int{5, 5}, nil, 0}, {[]int{4, 2}, []int{1, l}, nil, 0}, {[]int{4, 2}, []int{l, 1}, nil, 0}, {[]int{4, 2}, []int{8, 8}, nil, 0},
		{[]int{4, 2, 3}, []int{s, s, s}, nil, 0}, {[]int{4, 2, 3}, []int{b, s, s}, nil, 0}, {[]int{4, 2, 3}, []int{l, b, s}, nil, 0}, {[]int{4, 2, 3}, []int{s, s, l}, stemmed(stemmed(drawn(4, 2, 3), 0, 1), 2, 3), 2},
		{[]int{2, 5, 3}, []int{l, b, l}, stemmed(drawn(2, 5, 3), 0, 2), 6}, {[]int{5, 3, 1}, []int{l, b, b}, slanted(drawn(5, 3, 1), 1), 2}, {[]int{5, 3, 1}, []int{l, l, l}, stemmed(drawn(5, 3, 1), 1, 3), 10},
		{[]int{-4, 12}, []int{b, b}, drawn(-4, 12), 1}, {[]int{12, -4}, []int{l, l}, drawn(12, -4), 6},
	} {
		want := api.OK
		if c.want == nil {
			want = api.ErrNone
		}
		if x, e := ligature.Shape(c.places, c.values); e != want || !slices.Equal(x, c.want) {
			t.Errorf("Shape(%v, %v): %v %v, not %v", c.places, c.values, x, e, c.want)
		}
		if n, e := ligature.Count(c.places, c.values); n != c.count || e != api.OK {
			t.Errorf("Count(%v, %v): %d %v, not %d", c.places, c.values, n, e, c.count)
		}
		if can, e := ligature.Can(c.places, c.values); can != (c.want != nil) || e != api.OK {
			t.Errorf("Can(%v, %v): %v %v", c.places, c.values, can, e)
		}
	}
}

// checkErrors expects one error of Shape, Can, Count and Split, without other results.
func checkErrors(t *testing.T, places, values []int, want api.Errno) {
	x, e1 := ligature.Shape(places, values)
	can, e2 := ligature.Can(places, values)
	n, e3 := ligature.Count(places, values)
	lengths, e4 := ligature.Split(places, values)
	if e1 != want || e2 != want || e3 != want || e4 != want || len(x) > 0 || can || n != 0 || len(lengths) > 0 {
		t.Errorf("%v and %v: %v %v, %v %v, %d %v, %v %v, not %v", places, values, x, e1, can, e2, n, e3, lengths, e4, want)
	}
}

// P7.3: the errors, and which of several ones.
func TestListErrors(t *testing.T) {
	few, many := []int{1, 2}, slices.Repeat([]int{1, 2}, 7)[:13]
	for _, c := range []struct {
		places, values []int
		want           api.Errno
	}{
		{nil, nil, api.ErrFull}, {nil, few, api.ErrFull}, {[]int{1}, []int{b}, api.ErrFull}, {[]int{13}, []int{0, 9}, api.ErrFull}, {many, many, api.ErrFull}, {many, few, api.ErrFull}, {append([]int{13}, many[1:]...), nil, api.ErrFull},
		{few, nil, api.ErrForm}, {few, []int{b}, api.ErrForm}, {few, []int{b, b, b}, api.ErrForm}, {[]int{1, 13}, []int{b}, api.ErrForm}, {few, []int{0, 9, 9}, api.ErrForm}, {many[:12], many, api.ErrForm}, {few, many, api.ErrForm},
		{[]int{1, 13}, []int{b, b}, api.ErrRange}, {[]int{-5, 1}, []int{b, b}, api.ErrRange}, {few, []int{b, 9}, api.ErrRange}, {few, []int{0, b}, api.ErrRange}, {[]int{13, 13}, []int{9, 0}, api.ErrRange},
		{[]int{4, 4}, []int{b, 9}, api.ErrRange}, {append([]int{2}, many[1:11]...), append(many[:10:10], -1), api.ErrRange},
	} {
		checkErrors(t, c.places, c.values, c.want)
	}
}

// P7.3: any int in both lists.
func TestListInts(t *testing.T) {
	for i := range 3 {
		for _, k := range anyInts() {
			places, values := []int{4, 2, 3}, []int{l, b, b}
			places[i] = k
			if !isFrom(k, -4, 12) {
				checkErrors(t, places, values, api.ErrRange)
				checkErrors(t, places, values[1:], api.ErrForm)
			} else {
				check(t, places, values, searched(places, values))
			}
			places[i], values[i] = []int{4, 2, 3}[i], k
			if !isFrom(k, 1, 8) {
				checkErrors(t, places, values, api.ErrRange)
				checkErrors(t, places[1:], values, api.ErrForm)
				checkErrors(t, places[:1], values, api.ErrFull)
			} else {
				check(t, places, values, searched(places, values))
			}
			checkErrors(t, []int{k, math.MinInt, math.MaxInt}, []int{k, math.MinInt, math.MaxInt}, api.ErrRange)
		}
	}
}

// P7.3, P7.4: no list is changed, and results share no memory.
func TestListsKept(t *testing.T) {
	for _, c := range [][2][]int{{{4, 2, 1}, {l, b, b}}, {{4, 4, 1}, {l, b, b}}, {{4, 13}, {b, b}}, {{1}, {b}}, {{2, 3}, {5, 5}}} {
		places, values := guarded(c[0], 99), guarded(c[1], 99)
		x, _ := ligature.Shape(places, values)
		y, _ := ligature.Shape(places, values)
		ligature.Can(places, values)
		ligature.Count(places, values)
		lengths, _ := ligature.Split(places, values)
		again := slices.Clone(lengths)
		for i := range lengths {
			lengths[i] = 0
		}
		for i := range x {
			x[i] = api.Sign{}
		}
		z, _ := ligature.Shape(places, values)
		if !slices.Equal(y, z) {
			t.Errorf("Shape(%v, %v): %v, then %v", c[0], c[1], y, z)
		}
		if more, _ := ligature.Split(places, values); !slices.Equal(more, again) {
			t.Errorf("Split(%v, %v): %v, then %v", c[0], c[1], again, more)
		}
		if !isGuarded(places, c[0], 99) || !isGuarded(values, c[1], 99) {
			t.Errorf("%v and %v became %v and %v", c[0], c[1], places, values)
		}
	}
}
