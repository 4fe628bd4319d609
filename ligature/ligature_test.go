package ligature_test

import (
	"math"
	"slices"
	"testing"

	"tactus/api"
	"tactus/ligature"
)

// compare holds Check and Values against the model.
func compare(t *testing.T, x []api.Sign) {
	want, wantAt := verdict(x)
	e, at := ligature.Check(x)
	if e != want || at != wantAt {
		t.Errorf("Check(%v): %v %d, not %v %d", x, e, at, want, wantAt)
	}
	var values []int
	if want == api.OK {
		values = valuesOf(x)
	}
	if v, e := ligature.Values(x); e != want || !slices.Equal(v, values) {
		t.Errorf("Values(%v): %v %v, not %v %v", x, v, e, values, want)
	}
}

// P7.1, P7.2: the document's two notes, its examples, and more of each rule.
func TestValuesExamples(t *testing.T) {
	three, five := drawn(4, 2, 3), drawn(2, 5, 3, 4, 1)
	for _, c := range []struct {
		signs []api.Sign
		want  []int
	}{
		{drawn(4, 2), []int{l, l}}, {stemmed(drawn(4, 2), 0, 2), []int{b, l}}, {stemmed(drawn(4, 2), 0, 1), []int{s, s}},
		{slanted(drawn(4, 2), 0), []int{l, b}}, {slanted(stemmed(drawn(4, 2), 0, 2), 0), []int{b, b}}, {slanted(stemmed(drawn(4, 2), 0, 1), 0), []int{s, s}},
		{drawn(2, 4), []int{b, b}}, {stemmed(drawn(2, 4), 0, 2), []int{l, b}}, {stemmed(drawn(2, 4), 0, 1), []int{s, s}}, {stemmed(drawn(2, 4), 1, 3), []int{b, l}},
		{stemmed(drawn(2, 4), 0, 3), []int{l, b}}, {stemmed(drawn(4, 2), 0, 3), []int{l, l}}, {slanted(stemmed(drawn(4, 2), 0, 3), 0), []int{l, b}},
		{slanted(stemmed(drawn(4, 2), 1, 3), 0), []int{l, l}}, {stemmed(stemmed(drawn(2, 4), 0, 2), 1, 3), []int{l, l}},
		{three, []int{l, b, b}}, {stemmed(three, 0, 1), []int{s, s, b}}, {stemmed(stemmed(three, 0, 1), 2, 3), []int{s, s, l}}, {stemmed(three, 1, 3), []int{l, l, b}},
		{slanted(three, 0), []int{l, b, b}}, {slanted(drawn(5, 3, 1), 0), []int{l, b, l}}, {slanted(drawn(5, 3, 1), 1), []int{l, b, b}}, {slanted(drawn(7, 5, 3, 1), 0, 2), []int{l, b, b, b}},
		{five, []int{b, b, b, b, l}}, {stemmed(five, 0, 1), []int{s, s, b, b, l}}, {slanted(five, 3), []int{b, b, b, b, b}}, {stemmed(five, 2, 3), []int{b, b, l, b, l}},
		{drawn(0, 1, 0, 1, 0, 1, 0, 1, 0, 1, 0, 1), []int{b, b, b, b, b, b, b, b, b, b, b, b}}, {drawn(12, -4), []int{l, l}}, {drawn(-4, 12), []int{b, b}},
	} {
		e, at := ligature.Check(c.signs)
		if v, f := ligature.Values(c.signs); e != api.OK || at != 0 || f != api.OK || !slices.Equal(v, c.want) {
			t.Errorf("%v: %v %d, %v %v, not %v", c.signs, e, at, v, f, c.want)
		}
	}
}

// P7.1, P7.2: all shapes of two, three and four notes, valid or not.
func TestAllShapes(t *testing.T) {
	for n := 2; n <= 4; n++ {
		for _, places := range tuples(n, 1, 2, 4) {
			for _, x := range allDrawn(places...) {
				compare(t, x)
			}
		}
	}
}

// P7.1: how many valid shapes there are, counted by hand.
func TestNumbersOfShapes(t *testing.T) {
	for _, c := range []struct {
		places []int
		want   int
	}{
		// 7 choices of stems for two notes (with StemUp one, with each of the other three two), doubled by each further note; the bodies may not touch.
		{[]int{2, 4}, 7}, {[]int{4, 2}, 14}, {[]int{4, 4}, 0}, {[]int{1, 2, 4}, 14}, {[]int{4, 2, 4}, 28}, {[]int{4, 2, 1}, 42}, {[]int{5, 4, 2, 1}, 28 * 5}, {[]int{4, 2, 4, 2}, 28 * 4}, {[]int{4, 2, 2, 1}, 0},
	} {
		n := 0
		for _, x := range allDrawn(c.places...) {
			if e, _ := ligature.Check(x); e == api.OK {
				n++
			}
		}
		if n != c.want {
			t.Errorf("%v: %d valid shapes, not %d", c.places, n, c.want)
		}
	}
}

// changed is x with one note changed.
func changed(x []api.Sign, i int, change func(n *api.Sign)) []api.Sign {
	x = slices.Clone(x)
	change(&x[i])
	return x
}

// P7.1, P7.2: the edge cases of the chapter, and what each note may not be.
func TestErrors(t *testing.T) {
	down, up, long := drawn(4, 2), drawn(2, 4), drawn(1, 2, 1, 2, 1, 2, 1, 2, 1, 2, 1, 2)
	three, falling := drawn(4, 2, 3), drawn(5, 4, 3)
	last := func(n *api.Sign) { n.Last = !n.Last }
	for i, c := range []struct {
		signs []api.Sign
		want  api.Errno
		at    int
	}{
		{nil, api.ErrFull, 0}, {drawn(4), api.ErrFull, 0}, {long, api.OK, 0}, {append(drawn(2), long...), api.ErrFull, 0}, {make([]api.Sign, 1), api.ErrFull, 0}, {make([]api.Sign, 13), api.ErrFull, 0}, {make([]api.Sign, 2), api.ErrKind, 0},
		{drawn(4, 4), api.ErrForm, 1}, {drawn(2, 4, 4), api.ErrForm, 2}, {drawn(4, 2, 4), api.OK, 0},
		{slanted(up, 0), api.ErrForm, 0}, {slanted(down, 1), api.ErrForm, 1}, {slanted(three, 1), api.ErrForm, 1}, {slanted(falling, 0, 1), api.ErrForm, 0}, {slanted(falling, 1), api.OK, 0}, {slanted(drawn(4, 4), 0), api.ErrForm, 0}, {slanted(drawn(6, 5, 3, 2), 1, 2), api.ErrForm, 1},
		{changed(down, 1, last), api.ErrForm, 1}, {changed(down, 0, last), api.ErrForm, 0}, {changed(changed(down, 0, last), 1, last), api.ErrForm, 0}, {changed(three, 1, last), api.ErrForm, 1}, {changed(three, 2, last), api.ErrForm, 2}, {append(drawn(4, 2), down...), api.ErrForm, 1},
		{stemmed(three, 0, 1), api.OK, 0}, {stemmed(three, 0, 2), api.OK, 0}, {stemmed(three, 0, 3), api.OK, 0}, {stemmed(three, 1, 1), api.ErrForm, 1}, {stemmed(three, 1, 2), api.ErrForm, 1}, {stemmed(three, 1, 3), api.OK, 0},
		{stemmed(three, 2, 1), api.ErrForm, 2}, {stemmed(three, 2, 2), api.ErrForm, 2}, {stemmed(three, 2, 3), api.OK, 0}, {stemmed(stemmed(three, 0, 1), 1, 3), api.ErrForm, 1}, {stemmed(stemmed(three, 0, 1), 2, 3), api.OK, 0}, {stemmed(stemmed(three, 0, 2), 1, 3), api.OK, 0}, {stemmed(stemmed(three, 0, 3), 1, 3), api.OK, 0},
		{stemmed(three, 0, -1), api.ErrRange, 0}, {stemmed(three, 0, 4), api.ErrRange, 0}, {stemmed(three, 2, -1), api.ErrRange, 2}, {stemmed(three, 2, 4), api.ErrRange, 2},
		{drawn(-5, 2), api.ErrRange, 0}, {drawn(-4, 2), api.OK, 0}, {drawn(2, 12), api.OK, 0}, {drawn(2, 13), api.ErrRange, 1}, {slanted(drawn(-4, -5), 0), api.ErrRange, 1}, {slanted(drawn(-4, 13), 0), api.ErrForm, 0},
		{changed(three, 1, func(n *api.Sign) { n.Acc = -2 }), api.ErrRange, 1}, {changed(three, 1, func(n *api.Sign) { n.Acc = -1 }), api.OK, 0}, {changed(three, 1, func(n *api.Sign) { n.Acc = 2 }), api.OK, 0}, {changed(three, 1, func(n *api.Sign) { n.Acc = 3 }), api.ErrRange, 1},
		{changed(three, 1, func(n *api.Sign) { n.Color = true }), api.OK, 0}, {changed(three, 1, func(n *api.Sign) { n.Stroke = true }), api.ErrForm, 1}, {changed(three, 2, func(n *api.Sign) { n.Kind = api.Note }), api.ErrKind, 2}, {changed(three, 0, func(n *api.Sign) { n.Value = b }), api.ErrForm, 0},
	} {
		if e, at := ligature.Check(c.signs); e != c.want || at != c.at {
			t.Errorf("%d, Check(%v): %v %d, not %v %d", i, c.signs, e, at, c.want, c.at)
		}
		if v, e := ligature.Values(c.signs); e != c.want || (e == api.OK) != (len(v) > 0) {
			t.Errorf("%d, Values(%v): %v %v, not %v", i, c.signs, v, e, c.want)
		}
	}
}

// P7.1: all numbers of notes.
func TestSizes(t *testing.T) {
	for n := range 40 {
		var places []int
		for i := range n {
			places = append(places, i%3)
		}
		compare(t, drawn(places...))
		compare(t, make([]api.Sign, n))
		if e, _ := ligature.Check(drawn(places...)); (e == api.OK) != isFrom(n, 2, 12) {
			t.Errorf("%d notes: %v", n, e)
		}
	}
}

// setters change one field of a note, the unused ones last.
func setters() []func(n *api.Sign, k int) {
	return []func(n *api.Sign, k int){
		func(n *api.Sign, k int) { n.Kind = k }, func(n *api.Sign, k int) { n.Place = k }, func(n *api.Sign, k int) { n.Acc = k }, func(n *api.Sign, k int) { n.Stem = k },
		func(n *api.Sign, k int) { n.Value = k }, func(n *api.Sign, k int) { n.Mens.Max = k }, func(n *api.Sign, k int) { n.Mens.Mod = k }, func(n *api.Sign, k int) { n.Mens.Tem = k },
		func(n *api.Sign, k int) { n.Mens.Pro = k }, func(n *api.Sign, k int) { n.N = k }, func(n *api.Sign, k int) { n.D = k }, func(n *api.Sign, k int) { n.Clef.Step = k }, func(n *api.Sign, k int) { n.Clef.Line = k },
		func(n *api.Sign, k int) { n.Stroke = k != 0 }, func(n *api.Sign, k int) { n.Color = k != 0 }, func(n *api.Sign, k int) { n.Last = k != 0 }, func(n *api.Sign, k int) { n.Oblique = k != 0 },
	}
}

// P7.1: any int in each field of each note.
func TestAnyInts(t *testing.T) {
	for _, x := range [][]api.Sign{drawn(4, 2, 3, 1), stemmed(drawn(4, 2, 3, 1), 0, 1), slanted(stemmed(drawn(4, 2, 3, 1), 0, 2), 0, 2), stemmed(drawn(1, 4, 0, 3), 3, 3)} {
		for i := range x {
			for j, set := range setters() {
				for _, k := range anyInts() {
					y := changed(x, i, func(n *api.Sign) { set(n, k) })
					compare(t, y)
					if e, at := ligature.Check(y); isFrom(j, 4, 13) && k != 0 && (e != api.ErrForm || at != i) {
						t.Errorf("the field %d of the note %d is %d: %v %d", j, i, k, e, at)
					}
				}
			}
		}
	}
}

// P7.1, P7.2: several things wrong at each of two notes.
func TestErrorsTogether(t *testing.T) {
	faults := []func(n *api.Sign){
		func(n *api.Sign) { n.Kind = api.Note }, func(n *api.Sign) { n.Place = 13 }, func(n *api.Sign) { n.Acc = 3 }, func(n *api.Sign) { n.Stem = math.MaxInt }, func(n *api.Sign) { n.Last = !n.Last },
		func(n *api.Sign) { n.Clef.Line = 1 }, func(n *api.Sign) { n.Stem = api.StemUp }, func(n *api.Sign) { n.Oblique = true }, func(n *api.Sign) { n.Place = 3 }, func(n *api.Sign) { n.Stem = api.StemRight },
	}
	with := func(n *api.Sign, some int) {
		for k, fault := range faults {
			if some>>k&1 == 1 {
				fault(n)
			}
		}
	}
	for some := range 1 << len(faults) {
		for others := 0; others < 1<<len(faults); others += 7 {
			x := drawn(3, 2, 5)
			with(&x[some%3], some)
			with(&x[(some+1)%3], others)
			compare(t, x)
		}
	}
}

// P7.1, P7.2: Check and Values do not change the notes, nor what is behind them.
func TestSignsKept(t *testing.T) {
	guard := api.Sign{Kind: api.Rest, Value: 7}
	for _, x := range [][]api.Sign{nil, drawn(1), drawn(1, 1), drawn(4, 2, 1), slanted(stemmed(drawn(4, 2, 1), 0, 1), 1)} {
		kept := guarded(x, guard)
		ligature.Check(kept)
		values, _ := ligature.Values(kept)
		if !isGuarded(kept, x, guard) {
			t.Errorf("%v became %v", x, kept)
		}
		again := slices.Clone(values)
		for i := range values {
			values[i] = 9
		}
		if v, _ := ligature.Values(kept); !slices.Equal(v, again) {
			t.Errorf("Values(%v): %v, then %v", x, again, v)
		}
	}
}
