package dot_test

import (
	"slices"
	"testing"

	"tactus/api"
	"tactus/dot"
)

// isEqual tells whether the lists of two lists are equal.
func isEqual(a, b [][]int) bool { return slices.EqualFunc(a, b, slices.Equal[[]int]) }

// refused tells whether all functions return this error and nothing else.
func refused(t *testing.T, m api.Mens, l []api.Sign, want api.Errno) {
	if e := dot.Check(m, l); e != want {
		t.Errorf("Check(%v, %v): %v, not %v", m, l, e, want)
	}
	if all, e := dot.Meanings(m, l); e != want || len(all) != 0 {
		t.Errorf("Meanings(%v, %v): %v %v, not %v", m, l, all, e, want)
	}
	if list, e := dot.Rule(m, l); e != want || len(list) != 0 {
		t.Errorf("Rule(%v, %v): %v %v, not %v", m, l, list, e, want)
	}
	if n, e := dot.Count(m, l); e != want || n != 0 {
		t.Errorf("Count(%v, %v): %d %v, not %v", m, l, n, e, want)
	}
	for _, n := range []int{-1, 0, 1, 64} {
		if list, e := dot.Of(m, l, n); e != want || len(list) != 0 {
			t.Errorf("Of(%v, %v, %d): %v %v, not %v", m, l, n, list, e, want)
		}
	}
	for _, list := range [][]int{nil, {0}, {3}, {-1}, {3, 0, 9}} {
		if cuts, adds, e := dot.Marks(m, l, list); e != want || len(cuts) != 0 || len(adds) != 0 {
			t.Errorf("Marks(%v, %v, %v): %v %v %v, not %v", m, l, list, cuts, adds, e, want)
		}
	}
}

// P9.2: the document's examples, and what comes after the dot.
func TestMeaningsExamples(t *testing.T) {
	for _, c := range []struct {
		mens, run string
		all       [][]int
		rule      []int
	}{
		{"O", "S . S B .", [][]int{{0, 3}, {3}}, []int{3, 3}}, {"O", "S . M", [][]int{{0, 3}}, []int{0}}, {"O", "S .", [][]int{{0, 3}}, []int{0}}, {"O", "S . rS", [][]int{{0, 3}}, []int{3}}, {"O", "S . rM", [][]int{{0, 3}}, []int{0}},
		{"O", "S . *S", [][]int{{0, 3}}, []int{3}}, {"O", "S . *M", [][]int{{0, 3}}, []int{0}}, {"O", "S . B", [][]int{{0, 3}}, []int{3}}, {"O", "S . rX", [][]int{{0, 3}}, []int{3}}, {"O", "M . Q", [][]int{{0, 3}}, []int{0}}, {"O", "M . M", [][]int{{0, 3}}, []int{3}}, {"O", "L . B", [][]int{{0}}, []int{0}},
		{"C.", "S . S", [][]int{{4}}, []int{4}}, {"C", "S .", [][]int{{0}}, []int{0}}, {"C", "S . B", [][]int{{0}}, []int{0}}, {"C.", "*S .", [][]int{{0}}, []int{0}}, {"C.", "*S . B", [][]int{{0}}, []int{0}}, {"O", "*S . B", [][]int{{0}}, []int{0}},
		{"23O", "B .", [][]int{{2, 3}}, []int{3}}, {"23O", "B . B", [][]int{{2, 3}}, []int{2}}, {"23O", "B . S", [][]int{{2, 3}}, []int{3}}, {"23O", "B . L", [][]int{{2, 3}}, []int{2}}, {"23O", "L .", [][]int{{2}}, []int{2}}, {"23O", "L . X", [][]int{{2}}, []int{2}}, {"23O", "X . X", [][]int{{0}}, []int{0}},
		{"O", "rS .", [][]int{{3}}, []int{3}}, {"O", "rS . M", [][]int{{3}}, []int{3}}, {"O", "rZ . X", [][]int{{3}}, []int{3}}, {"23O", "rB . B", [][]int{{2}}, []int{2}}, {"23O", "rS . M", [][]int{{3}}, []int{3}},
		{"33O.", "S . M", [][]int{{3, 4}}, []int{4}}, {"33O.", "S . S", [][]int{{3, 4}}, []int{3}}, {"33O.", "L . X", [][]int{{1, 2}}, []int{1}}, {"33O.", "X . X", [][]int{{1}}, []int{1}}, {"33O.", "Z . Z", [][]int{{0, 4}}, []int{4}},
		{"32C.", "S . S", [][]int{{1, 4}}, []int{1}}, {"32C.", "B . B", [][]int{{0, 1}}, []int{1}}, {"32C.", "B . S", [][]int{{0, 1}}, []int{0}}, {"32C.", "rS . S", [][]int{{1}}, []int{1}}, {"32C.", "M . S M . Q", [][]int{{0, 4}, {0, 4}}, []int{4, 0}},
		{"O", "", nil, nil}, {"O", "S", nil, nil}, {"C", "S rS *S", nil, nil},
	} {
		m, l := named()[c.mens], run(c.run)
		if all, e := dot.Meanings(m, l); e != api.OK || !isEqual(all, c.all) {
			t.Errorf("Meanings(%s, %s): %v %v, not %v", c.mens, c.run, all, e, c.all)
		}
		if list, e := dot.Rule(m, l); e != api.OK || !slices.Equal(list, c.rule) {
			t.Errorf("Rule(%s, %s): %v %v, not %v", c.mens, c.run, list, e, c.rule)
		}
	}
}

// P9.1: dots that follow what they cannot follow.
func TestDotErrors(t *testing.T) {
	for _, c := range []struct{ mens, run string }{
		{"O", ". S"}, {"O", "."}, {"O", "S . ."}, {"O", "S . . S"}, {"O", "rS . ."}, {"C.", "*S . ."}, {"C", "rS ."}, {"C", "rX ."}, {"C", "rZ . S"}, {"O", "rB ."}, {"O", "rL . S"}, {"O", "rX ."}, {"C.", "rS ."}, {"C.", "rB ."}, {"23O", "rL ."}, {"23O", "rX ."}, {"33O.", "rX ."}, {"32C.", "rX ."},
		{"O", "S . S B . rB ."}, {"C", "S rM ."},
	} {
		refused(t, named()[c.mens], run(c.run), api.ErrDot)
	}
	for _, c := range []struct{ mens, run string }{{"O", "rS ."}, {"C.", "rM ."}, {"23O", "rB ."}, {"33O.", "rL ."}, {"32C.", "rL ."}, {"32C.", "rS ."}, {"C", "S . S ."}, {"C", ""}, {"O", "X L B S M Q F Z rX rL rB rS rM rQ rF rZ"}} {
		if e := dot.Check(named()[c.mens], run(c.run)); e != api.OK {
			t.Errorf("Check(%s, %s): %v", c.mens, c.run, e)
		}
	}
}

// P9.1: signs of other kinds, also with a value, and with what is wrong besides.
func TestKinds(t *testing.T) {
	for _, kind := range append(anyInts(), api.Tied, api.Mensural, api.Signum) {
		if kind >= api.Note && kind <= api.Dot {
			continue
		}
		for _, s := range []api.Sign{{Kind: kind}, {Kind: kind, Value: 4}, {Kind: kind, Value: 9}, {Kind: kind, Value: -1, Color: true}} {
			refused(t, made(2, 2, 3, 2), []api.Sign{s}, api.ErrKind)
			refused(t, made(2, 2, 3, 2), []api.Sign{note(4), point(), s, point(), point()}, api.ErrKind)
			refused(t, made(2, 2, 3, 2), []api.Sign{note(4), s, note(9)}, api.ErrKind)
		}
	}
}

// P9.1: notes and rests with any int as their value.
func TestValues(t *testing.T) {
	for _, m := range allMens() {
		for _, v := range anyInts() {
			for _, s := range []api.Sign{note(v), colored(v), rest(v)} {
				if v >= 1 && v <= 8 {
					if e := dot.Check(m, []api.Sign{s}); e != api.OK {
						t.Errorf("Check(%v, %v): %v", m, s, e)
					}
					continue
				}
				refused(t, m, []api.Sign{s}, api.ErrRange)
				refused(t, m, []api.Sign{s, point()}, api.ErrRange)
				refused(t, m, []api.Sign{note(8), s, {Kind: 13}}, api.ErrRange)
			}
		}
	}
}

// P9.1: all lists of up to four signs with several faults; mensurations that are none come before them.
func TestFaults(t *testing.T) {
	signs := []api.Sign{note(4), rest(3), colored(2), note(0), note(9), rest(0), rest(9), point(), {}, {Kind: api.Tied, Value: 4}}
	for _, l := range tuples(4, signs...) {
		for _, m := range named() {
			if want := verdict(m, l); want != api.OK {
				refused(t, m, l, want)
			} else if e := dot.Check(m, l); e != api.OK {
				t.Errorf("Check(%v, %v): %v", m, l, e)
			}
		}
	}
	for _, m := range noMens() {
		for _, l := range append(tuples(2, signs...), run("S . S . S . S . S . S . S .")) {
			refused(t, m, l, api.ErrMens)
		}
	}
}

// P9.1, P9.2: all short runs against the model.
func TestShortRuns(t *testing.T) {
	short := shortRuns()
	for _, m := range allMens() {
		for _, l := range short {
			want := verdict(m, l)
			if e := dot.Check(m, l); e != want {
				t.Errorf("Check(%v, %v): %v, not %v", m, l, e, want)
			}
			all, e := dot.Meanings(m, l)
			list, f := dot.Rule(m, l)
			if e != want || f != want {
				t.Errorf("Meanings and Rule(%v, %v): %v and %v, not %v", m, l, e, f, want)
			}
			if want != api.OK {
				continue
			}
			if !isEqual(all, allMeanings(m, l)) || !slices.Equal(list, ruled(m, l)) {
				t.Errorf("Meanings and Rule(%v, %v): %v and %v, not %v and %v", m, l, all, list, allMeanings(m, l), ruled(m, l))
			}
		}
	}
}

// P9.2: all values with all that can come next.
func TestRule(t *testing.T) {
	afters := append(tuples(1, signsOf(1, 2, 3, 4, 5, 6, 7, 8)[1:]...), run("B ."), run("S S"), run("L . B"))
	for _, m := range allMens() {
		for v := 1; v <= 8; v++ {
			for _, s := range []api.Sign{note(v), colored(v), rest(v)} {
				for _, after := range afters {
					l := append([]api.Sign{rest(1), s, point()}, after...)
					if verdict(m, l) != api.OK {
						continue
					}
					if list, e := dot.Rule(m, l); e != api.OK || !slices.Equal(list, ruled(m, l)) {
						t.Errorf("Rule(%v, %v): %v %v, not %v", m, l, list, e, ruled(m, l))
					}
				}
			}
		}
	}
}

// filled is l with all fields that do not matter set, a color of rests and dots and a value of dots among them.
func filled(l []api.Sign) []api.Sign {
	l = slices.Clone(l)
	for i, s := range l {
		x := api.Sign{Kind: s.Kind, Value: s.Value, Place: 99, Acc: 7, Color: s.Color, Stem: -1, Oblique: true, Last: true, Mens: made(9, 9, 9, 9), Stroke: true, N: -5, D: 1 << 40, Clef: api.Clef{Step: 9, Line: 9}}
		if s.Kind != api.Note {
			x.Color = true
		}
		if s.Kind == api.Dot {
			x.Value = i - 2
		}
		l[i] = x
	}
	return l
}

// P9.1, P9.2, P9.3, P9.4: only the kinds, the values, and the color of notes matter.
func TestOtherFields(t *testing.T) {
	for _, m := range allMens() {
		for _, l := range append(tuples(3, signsOf(2, 3, 4, 5)...), run("S . B . *S . rM S . . M"), run("S . rM . *B . M . L . B")) {
			x := filled(l)
			want := verdict(m, l)
			all, e := dot.Meanings(m, x)
			list, f := dot.Rule(m, x)
			n, g := dot.Count(m, x)
			if dot.Check(m, x) != want || e != want || f != want || g != want {
				t.Errorf("%v under %v: %v, %v and %v, not %v", x, m, e, f, g, want)
			}
			if want != api.OK {
				continue
			}
			if !isEqual(all, allMeanings(m, l)) || !slices.Equal(list, ruled(m, l)) || n != len(lists(all)) {
				t.Errorf("%v under %v: %v, %v and %d", x, m, all, list, n)
			}
			cuts, adds, e := dot.Marks(m, x, list)
			if wantCuts, wantAdds := marked(l, list); e != api.OK || !slices.Equal(cuts, wantCuts) || !slices.Equal(adds, wantAdds) {
				t.Errorf("%v under %v: %v and %v", x, m, cuts, adds)
			}
		}
	}
}

// P9.1 to P9.4: no run, no list of meanings, and nothing behind them is changed; nothing of a result is kept or shared.
func TestUnchanged(t *testing.T) {
	m := made(2, 3, 3, 3)
	for _, text := range []string{"S . S B . *S . rM . M", "B . B . B . S . S . S . M", "S . rL .", "", "B . S . M . B . M . S ."} {
		plain := run(text)
		guard := append(slices.Clone(plain), note(7), point())
		l := guard[:len(plain)]
		all, _ := dot.Meanings(m, l)
		list, _ := dot.Rule(m, l)
		numbers := append(slices.Clone(list), -7, -7)
		given := numbers[:len(list)]
		cuts, adds, e := dot.Marks(m, l, given)
		n, _ := dot.Count(m, l)
		last, _ := dot.Of(m, l, n-1)
		dot.Marks(m, l, append(slices.Clone(list), 9)[:len(list)])
		if dot.Check(m, l) != e || !slices.Equal(guard[:len(plain)], plain) || !slices.Equal(guard[len(plain):], []api.Sign{note(7), point()}) || !slices.Equal(given, list) || !slices.Equal(numbers[len(list):], []int{-7, -7}) {
			t.Errorf("%s is changed: %v and %v", text, guard, numbers)
		}
		if e != api.OK {
			continue
		}
		for _, x := range append(slices.Clone(all), list, cuts, last) {
			for i := range x {
				x[i] = -9
			}
			_ = append(x, -9, -9)
		}
		for i := range adds {
			adds[i] = !adds[i]
		}
		all, _ = dot.Meanings(m, l)
		list, _ = dot.Rule(m, l)
		cuts, adds, _ = dot.Marks(m, l, given)
		wantCuts, wantAdds := marked(l, given)
		if !isEqual(all, allMeanings(m, l)) || !slices.Equal(list, given) || !slices.Equal(cuts, wantCuts) || !slices.Equal(adds, wantAdds) || !slices.Equal(given, numbers[:len(list)]) {
			t.Errorf("%s after changes of the results: %v, %v, %v, %v", text, all, list, cuts, adds)
		}
	}
}

// P9.2: the lists of meanings of one result share no memory, not even behind their ends.
func TestMeaningsApart(t *testing.T) {
	m, l := made(3, 3, 3, 3), run("S . S . B . B . M . M . X . rS . *S .")
	all, e := dot.Meanings(m, l)
	if e != api.OK || len(all) != 9 {
		t.Fatal(all, e)
	}
	for i := range all {
		whole := all[i][:cap(all[i])]
		for k := range whole {
			whole[k] = -9
		}
		for k, other := range all[i+1:] {
			if want := allMeanings(m, l)[i+1+k]; !slices.Equal(other, want) {
				t.Errorf("the list %d after a change of the list %d: %v, not %v", i+1+k, i, other, want)
			}
		}
	}
}
