package dot_test

import (
	"math"
	"slices"
	"testing"

	"tactus/api"
	"tactus/dot"
)

// P9.3, P9.4: the document's examples.
func TestListsExamples(t *testing.T) {
	m, l := made(2, 2, 3, 2), run("S . S . M")
	if n, e := dot.Count(m, l); n != 4 || e != api.OK {
		t.Errorf("Count: %d %v", n, e)
	}
	for n, want := range [][]int{{0, 0}, {0, 3}, {3, 0}, {3, 3}} {
		if list, e := dot.Of(m, l, n); !slices.Equal(list, want) || e != api.OK {
			t.Errorf("Of %d: %v %v, not %v", n, list, e, want)
		}
	}
	for _, n := range []int{math.MinInt, -1, 4, 5, 64, math.MaxInt} {
		if list, e := dot.Of(m, l, n); len(list) != 0 || e != api.ErrRange {
			t.Errorf("Of %d: %v %v", n, list, e)
		}
	}
	l = run("S . M")
	if cuts, adds, e := dot.Marks(m, l, []int{3}); e != api.OK || !slices.Equal(cuts, []int{3, 0}) || !slices.Equal(adds, []bool{false, false}) {
		t.Errorf("Marks with 3: %v %v %v", cuts, adds, e)
	}
	if cuts, adds, e := dot.Marks(m, l, []int{0}); e != api.OK || !slices.Equal(cuts, []int{0, 0}) || !slices.Equal(adds, []bool{true, false}) {
		t.Errorf("Marks with 0: %v %v %v", cuts, adds, e)
	}
	if cuts, adds, e := dot.Marks(m, l, []int{4}); e != api.ErrRange || len(cuts) != 0 || len(adds) != 0 {
		t.Errorf("Marks with 4: %v %v %v", cuts, adds, e)
	}
	cuts, adds, e := dot.Marks(m, run("rM S . M rS . B . *S ."), []int{0, 3, 3, 0})
	if e != api.OK || !slices.Equal(cuts, []int{0, 0, 0, 3, 3, 0}) || !slices.Equal(adds, []bool{false, true, false, false, false, true}) {
		t.Errorf("Marks of six notes and rests: %v %v %v", cuts, adds, e)
	}
}

// P9.3, P9.4: the empty run, and a run without dots.
func TestNoDots(t *testing.T) {
	for _, m := range allMens() {
		for _, l := range [][]api.Sign{nil, {}, run("S"), run("rX *S Z")} {
			all, e := dot.Meanings(m, l)
			list, f := dot.Rule(m, l)
			n, g := dot.Count(m, l)
			first, h := dot.Of(m, l, 0)
			cuts, adds, i := dot.Marks(m, l, nil)
			if e != api.OK || f != api.OK || g != api.OK || h != api.OK || i != api.OK || dot.Check(m, l) != api.OK {
				t.Errorf("%v: %v %v %v %v %v", l, e, f, g, h, i)
			}
			if len(all) != 0 || len(list) != 0 || n != 1 || len(first) != 0 || !slices.Equal(cuts, make([]int, len(l))) || !slices.Equal(adds, make([]bool, len(l))) {
				t.Errorf("%v: %v, %v, %d, %v, %v, %v", l, all, list, n, first, cuts, adds)
			}
			for _, n := range []int{math.MinInt, -1, 1, math.MaxInt} {
				if list, e := dot.Of(m, l, n); len(list) != 0 || e != api.ErrRange {
					t.Errorf("Of(%v, %d): %v %v", l, n, list, e)
				}
			}
			if cuts, adds, e := dot.Marks(m, l, []int{0}); len(cuts) != 0 || len(adds) != 0 || e != api.ErrRange {
				t.Errorf("Marks(%v) of a dot: %v %v %v", l, cuts, adds, e)
			}
		}
	}
}

// compareLists holds Count, Of and Marks against the model.
func compareLists(t *testing.T, m api.Mens, l []api.Sign) {
	want := lists(allMeanings(m, l))
	if n, e := dot.Count(m, l); n != len(want) || e != api.OK {
		t.Errorf("Count(%v, %v): %d %v, not %d", m, l, n, e, len(want))
	}
	for n, w := range want {
		list, e := dot.Of(m, l, n)
		if !slices.Equal(list, w) || e != api.OK {
			t.Errorf("Of(%v, %v, %d): %v %v, not %v", m, l, n, list, e, w)
		}
		cuts, adds, e := dot.Marks(m, l, w)
		if wantCuts, wantAdds := marked(l, w); !slices.Equal(cuts, wantCuts) || !slices.Equal(adds, wantAdds) || e != api.OK {
			t.Errorf("Marks(%v, %v, %v): %v %v %v, not %v %v", m, l, w, cuts, adds, e, wantCuts, wantAdds)
		}
	}
	for _, n := range []int{math.MinInt, math.MinInt + 1, -len(want), -1, len(want), len(want) + 1, 2*len(want) + 1, 1 << 32, math.MaxInt} {
		if list, e := dot.Of(m, l, n); len(list) != 0 || e != api.ErrRange {
			t.Errorf("Of(%v, %v, %d): %v %v", m, l, n, list, e)
		}
	}
}

// P9.3, P9.4: all lists of the short runs.
func TestAllLists(t *testing.T) {
	validRuns(func(m api.Mens, l []api.Sign) { compareLists(t, m, l) })
}

// P9.3: as many lists as there may be.
func TestMostLists(t *testing.T) {
	one := run("*S . rS . B .")
	for k := range 7 {
		long := slices.Concat(slices.Repeat(one, 50), slices.Repeat(run("S ."), k), slices.Repeat(one, 20), run("B"))
		if n, e := dot.Count(made(2, 2, 3, 2), long); n != 1<<k || e != api.OK {
			t.Errorf("%d dots with two meanings: %d %v", k, n, e)
		}
		compareLists(t, made(2, 2, 3, 2), long)
	}
	compareLists(t, made(3, 3, 3, 3), run("S . *S . B . X . L . rB . M . Q . Z . X"))
	compareLists(t, made(2, 3, 2, 3), run("S . B . rX B . rM . Z . S . S . L . S"))
}

// P9.3: more lists than there may be; the other functions do not mind.
func TestTooManyLists(t *testing.T) {
	m := made(2, 2, 3, 2)
	for _, k := range []int{7, 8, 16, 31, 32, 33, 62, 63, 64, 65, 66, 126, 127, 128, 129, 1000} {
		l := append(slices.Repeat(run("S ."), k), run("B .")...)
		if n, e := dot.Count(m, l); n != 0 || e != api.ErrMany {
			t.Errorf("%d dots: %d %v", k, n, e)
		}
		for _, n := range []int{math.MinInt, -1, 0, 1, 63, 64, 127, 128, math.MaxInt} {
			if list, e := dot.Of(m, l, n); len(list) != 0 || e != api.ErrMany {
				t.Errorf("%d dots, Of %d: %v %v", k, n, list, e)
			}
		}
		all, e := dot.Meanings(m, l)
		list, f := dot.Rule(m, l)
		if e != api.OK || f != api.OK || !isEqual(all, allMeanings(m, l)) || !slices.Equal(list, ruled(m, l)) {
			t.Errorf("%d dots: %v %v, %v %v", k, all, e, list, f)
		}
		cuts, adds, e := dot.Marks(m, l, list)
		if wantCuts, wantAdds := marked(l, list); e != api.OK || !slices.Equal(cuts, wantCuts) || !slices.Equal(adds, wantAdds) {
			t.Errorf("%d dots: %v %v %v", k, cuts, adds, e)
		}
	}
}

// P9.3: many dots with one meaning make one list.
func TestOneMeaningEach(t *testing.T) {
	l := slices.Repeat(run("*S ."), 100000)
	for _, m := range allMens() {
		if n, e := dot.Count(m, l); n != 1 || e != api.OK {
			t.Errorf("%v: %d %v", m, n, e)
		}
		if list, e := dot.Of(m, l, 0); e != api.OK || !slices.Equal(list, make([]int, 100000)) {
			t.Errorf("%v: %d meanings, %v", m, len(list), e)
		}
	}
}

// P9.4: lists with too few and too many meanings, and with any int in the place of each meaning.
func TestMarksErrors(t *testing.T) {
	for _, m := range allMens() {
		for _, text := range []string{"S . M", "S . B . *S . M", "rZ S . B . L . X . *S", "M S Q . rS", "S . S . S . S . S . S . S . S ."} {
			l := run(text)
			all := allMeanings(m, l)
			list := ruled(m, l)
			for n := range 12 {
				long := append(slices.Clone(list), slices.Repeat(list, 12)...)[:n]
				if cuts, adds, e := dot.Marks(m, l, long); (e == api.OK) != (n == len(list)) || n != len(list) && (e != api.ErrRange || len(cuts) != 0 || len(adds) != 0) {
					t.Errorf("Marks(%v, %s, %v): %v %v %v", m, text, long, cuts, adds, e)
				}
			}
			for i := range list {
				for _, w := range anyInts() {
					changed := slices.Clone(list)
					changed[i] = w
					cuts, adds, e := dot.Marks(m, l, changed)
					if is := slices.Contains(all[i], w); is != (e == api.OK) || !is && (e != api.ErrRange || len(cuts) != 0 || len(adds) != 0) {
						t.Errorf("Marks(%v, %s, %v): %v %v %v", m, text, changed, cuts, adds, e)
					}
				}
			}
		}
	}
}

// P9.4: the meanings must stand in the order of their dots.
func TestMarksOrder(t *testing.T) {
	m, l := made(2, 2, 3, 2), run("B . L .")
	if cuts, adds, e := dot.Marks(m, l, []int{3, 0}); e != api.OK || !slices.Equal(cuts, []int{3, 0}) || !slices.Equal(adds, []bool{false, true}) {
		t.Errorf("3 0: %v %v %v", cuts, adds, e)
	}
	if cuts, adds, e := dot.Marks(m, l, []int{0, 3}); e != api.ErrRange || len(cuts) != 0 || len(adds) != 0 {
		t.Errorf("0 3: %v %v %v", cuts, adds, e)
	}
}
