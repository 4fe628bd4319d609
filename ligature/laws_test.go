package ligature_test

import (
	"slices"
	"testing"

	"tactus/api"
	"tactus/ligature"
)

// manyLists calls f with all places and values of two and three notes, and with some of more.
func manyLists(f func(places, values []int)) {
	for n := 2; n <= 3; n++ {
		for _, places := range tuples(n, -4, 2, 3, 12) {
			for _, values := range tuples(n, 1, 2, 3, 4, 5, 6, 7, 8) {
				f(places, values)
			}
		}
	}
	roll := dice(3)
	for n := 4; n <= 12; n++ {
		for range 300 {
			f(listed(roll, n))
		}
	}
}

// P7.5: the values of Shape are the values, at the places; it is a valid ligature without accidentals and color.
func TestValuesOfShape(t *testing.T) {
	shapes := 0
	manyLists(func(places, values []int) {
		x, e := ligature.Shape(places, values)
		if e != api.OK {
			return
		}
		shapes++
		if v, e := ligature.Values(x); e != api.OK || !slices.Equal(v, values) {
			t.Errorf("Shape(%v, %v): %v with the values %v %v", places, values, x, v, e)
		}
		for i, n := range x {
			if n.Place != places[i] || n.Acc != 0 || n.Color {
				t.Errorf("Shape(%v, %v): %v", places, values, x)
			}
		}
	})
	if shapes < 300 {
		t.Errorf("only %d shapes", shapes)
	}
}

// P7.5: Shape of the values of a ligature is not after it in the order, whatever accidentals and color it has.
func TestShapeOfValues(t *testing.T) {
	for _, places := range tuples(3, 1, 2, 4) {
		for k, x := range allDrawn(places...) {
			x[k%3].Acc, x[k%2].Color = k%4-1, true
			values, e := ligature.Values(x)
			if e != api.OK {
				continue
			}
			y, e := ligature.Shape(places, values)
			if e != api.OK || slices.Compare(orderKey(y), orderKey(x)) > 0 {
				t.Errorf("%v has the values %v, with the shape %v %v", x, values, y, e)
			}
		}
	}
}

// mayHave tells whether values are such as any ligature may have.
func mayHave(values []int) bool {
	for i, v := range values {
		if v != l && v != b && (v != s || i > 1) {
			return false
		}
	}
	return (values[0] == s) == (values[1] == s)
}

// P7.6: Can, Count and Shape agree; no value that is not a long, a breve, or one of the first two semibreves.
func TestLigatedOrNot(t *testing.T) {
	manyLists(func(places, values []int) {
		can, e := ligature.Can(places, values)
		n, f := ligature.Count(places, values)
		_, g := ligature.Shape(places, values)
		if e != api.OK || f != api.OK || can != (n > 0) || can != (g == api.OK) || !can && g != api.ErrNone {
			t.Errorf("%v, %v: %v %v, %d %v, %v", places, values, can, e, n, f, g)
		}
		if can && !mayHave(values) {
			t.Errorf("%v can be ligated at %v", values, places)
		}
	})
	for _, x := range allDrawn(4, 2, 1, 3) {
		if v, e := ligature.Values(x); e == api.OK && !mayHave(v) {
			t.Errorf("%v has the values %v", x, v)
		}
	}
}

// P7.7: moved places change no value, and no shape but for its places.
func TestMoved(t *testing.T) {
	for _, places := range tuples(3, 0, 1, 3) {
		for by := -4; by <= 9; by++ {
			for _, x := range allDrawn(places...) {
				y := slices.Clone(x)
				for i := range y {
					y[i].Place += by
				}
				v, e := ligature.Values(x)
				if w, f := ligature.Values(y); e != f || !slices.Equal(v, w) {
					t.Errorf("%v has the values %v %v, by %d higher %v %v", x, v, e, by, w, f)
				}
			}
		}
	}
	roll := dice(5)
	for k := range 200 {
		places, values := listed(roll, 2+k%11)
		x, e := ligature.Shape(places, values)
		lengths, _ := ligature.Split(places, values)
		for by := -4 - slices.Min(places); by <= 12-slices.Max(places); by++ {
			moved := slices.Clone(places)
			for i := range moved {
				moved[i] += by
			}
			y, f := ligature.Shape(moved, values)
			for i := range y {
				y[i].Place -= by
			}
			again, _ := ligature.Split(moved, values)
			if e != f || !slices.Equal(x, y) || !slices.Equal(lengths, again) {
				t.Errorf("%v and %v, by %d higher: %v %v %v, not %v %v %v", places, values, by, y, f, again, x, e, lengths)
			}
		}
	}
}

// P7.8: the lengths add up to the notes; each piece of several notes can be ligated, and no two successive pieces together.
func TestPieces(t *testing.T) {
	manyLists(func(places, values []int) {
		lengths, e := ligature.Split(places, values)
		if e != api.OK {
			t.Fatalf("Split(%v, %v): %v", places, values, e)
		}
		from := 0
		for i, n := range lengths {
			if n < 1 || from+n > len(places) {
				t.Fatalf("Split(%v, %v): %v", places, values, lengths)
			}
			if n > 1 && !together(places, values, from, from+n) || i > 0 && together(places, values, from-lengths[i-1], from+n) {
				t.Errorf("Split(%v, %v): %v, wrong at the piece %d", places, values, lengths, i)
			}
			from += n
		}
		if from != len(places) {
			t.Errorf("Split(%v, %v): %v", places, values, lengths)
		}
	})
}

// together tells whether the notes from one to another can be ligated.
func together(places, values []int, from, to int) bool {
	can, _ := ligature.Can(places[from:to], values[from:to])
	return can
}
