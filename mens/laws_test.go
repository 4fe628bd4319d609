package mens_test

import (
	"slices"
	"testing"

	"tactus/api"
	"tactus/mens"
	"tactus/span"
)

// full is the full duration of a value under a valid mensuration.
func full(t *testing.T, m api.Mens, v int) api.Time {
	x, e := mens.Full(m, v)
	if e != api.OK || span.Check(x) != api.OK {
		t.Fatalf("Full(%v, %d): %v %v", m, v, x, e)
	}
	return x
}

// order compares two times.
func order(t *testing.T, a, b api.Time) int {
	n, e := span.Compare(a, b)
	if e != api.OK {
		t.Fatalf("%v and %v: %v", a, b, e)
	}
	return n
}

// P5.7: a value has as many of the next one as its parts are; no full duration is beyond 81 minims or 1/8 of a minim.
func TestPartsOfFull(t *testing.T) {
	greatest, least := over(1, 1), over(1, 1)
	for _, k := range allKnown() {
		for v := 1; v <= 8; v++ {
			x := full(t, k.mens, v)
			if order(t, x, greatest) > 0 {
				greatest = x
			}
			if order(t, x, least) < 0 {
				least = x
			}
			if v == 8 {
				continue
			}
			n, e := mens.Parts(k.mens, v)
			if e != api.OK {
				t.Fatal(k.text, v, e)
			}
			if product, e := span.Mul(over(n, 1), full(t, k.mens, v+1)); product != x || e != api.OK {
				t.Errorf("%s: %d is %v, but its parts are %v %v", k.text, v, x, product, e)
			}
		}
	}
	if greatest != over(81, 1) || least != over(1, 8) {
		t.Errorf("from %v to %v", least, greatest)
	}
}

// P5.8: Text and Parse are inverse, and different mensurations have different texts.
func TestTextsInverse(t *testing.T) {
	seen := map[string]api.Mens{}
	for _, k := range allKnown() {
		s, e := mens.Text(k.mens)
		if other, is := seen[s]; is || e != api.OK {
			t.Errorf("Text(%v): %q %v, also that of %v", k.mens, s, e, other)
		}
		seen[s] = k.mens
		if m, e := mens.Parse(s); m != k.mens || e != api.OK {
			t.Errorf("%v: %q is read as %v %v", k.mens, s, m, e)
		}
	}
	for _, s := range texts("23OC.", 5) {
		m, e := mens.Parse(s)
		if e != api.OK {
			continue
		}
		if again, e := mens.Text(m); again != s || e != api.OK {
			t.Errorf("%q is read as %v, with the text %q %v", s, m, again, e)
		}
		delete(seen, s)
	}
	if len(seen) > 0 {
		t.Errorf("not read: %v", seen)
	}
}

// P5.8: Number and Of are inverse.
func TestNumbersInverse(t *testing.T) {
	for n := range 16 {
		m, e := mens.Of(n)
		if k, f := mens.Number(m); k != n || e != api.OK || f != api.OK {
			t.Errorf("%d: %v %v, with the number %d %v", n, m, e, k, f)
		}
	}
	for _, k := range allKnown() {
		n, e := mens.Number(k.mens)
		if m, f := mens.Of(n); m != k.mens || e != api.OK || f != api.OK {
			t.Errorf("%v: %d %v, which is that of %v %v", k.mens, n, e, m, f)
		}
	}
}

// P5.9: full durations descend, so that each one fits its own value and no other.
func TestDescending(t *testing.T) {
	for _, k := range allKnown() {
		for v := 1; v <= 8; v++ {
			x := full(t, k.mens, v)
			if v > 1 && order(t, full(t, k.mens, v-1), x) != 1 {
				t.Errorf("%s: %d is not longer than %d", k.text, v-1, v)
			}
			if l, e := mens.Fits(k.mens, x); !slices.Equal(l, []int{v}) || e != api.OK {
				t.Errorf("Fits(%s, %v): %v %v, not %d", k.text, x, l, e, v)
			}
		}
	}
}

// P5.10: a 3 in place of a 2 makes no full duration shorter, and those of the value and of greater ones longer.
func TestPerfectIsLonger(t *testing.T) {
	pairs := 0
	for _, k := range allKnown() {
		for value, field := range map[int]func(*api.Mens) *int{
			1: func(m *api.Mens) *int { return &m.Max }, 2: func(m *api.Mens) *int { return &m.Mod },
			3: func(m *api.Mens) *int { return &m.Tem }, 4: func(m *api.Mens) *int { return &m.Pro },
		} {
			more := k.mens
			if *field(&more) == 3 {
				continue
			}
			*field(&more) = 3
			pairs++
			for v := 1; v <= 8; v++ {
				want := 0
				if v <= value {
					want = 1
				}
				if got := order(t, full(t, more, v), full(t, k.mens, v)); got != want {
					t.Errorf("value %d under %v and %v: %d, not %d", v, more, k.mens, got, want)
				}
			}
		}
	}
	if pairs != 32 {
		t.Errorf("%d pairs", pairs)
	}
}

// P5.1 to P5.6: the document's examples.
func TestExamples(t *testing.T) {
	circle, point := made(2, 2, 3, 2), made(2, 2, 2, 3)
	for _, c := range []struct {
		mens  api.Mens
		value int
		want  api.Time
	}{{circle, api.Breve, over(6, 1)}, {point, api.Breve, over(6, 1)}, {circle, api.Maxima, over(24, 1)}, {point, api.Fusa, over(1, 4)}} {
		if x := full(t, c.mens, c.value); x != c.want {
			t.Errorf("Full(%v, %d): %v, not %v", c.mens, c.value, x, c.want)
		}
	}
	for _, c := range []struct {
		mens api.Mens
		want []int
	}{{circle, []int{3}}, {point, []int{4}}, {made(3, 3, 3, 3), []int{4, 3, 2, 1}}} {
		if l, e := mens.Levels(c.mens); !slices.Equal(l, c.want) || e != api.OK {
			t.Errorf("Levels(%v): %v %v, not %v", c.mens, l, e, c.want)
		}
	}
	for value, want := range map[int]int{api.Minim: 3, api.Breve: 0} {
		if n, e := mens.Above(circle, value); n != want || e != api.OK {
			t.Errorf("Above(O, %d): %d %v, not %d", value, n, e, want)
		}
	}
	for s, m := range map[string]api.Mens{"23O": made(2, 3, 3, 2), "32C.": made(3, 2, 2, 3), "23C": made(2, 3, 2, 2)} {
		text, e := mens.Text(m)
		if read, f := mens.Parse(s); text != s || e != api.OK || read != m || f != api.OK {
			t.Errorf("%v has the text %q %v; %q is read as %v %v", m, text, e, s, read, f)
		}
	}
	for _, c := range []struct {
		time api.Time
		want []int
	}{{over(4, 1), nil}, {over(6, 1), []int{3}}} {
		if l, e := mens.Fits(circle, c.time); !slices.Equal(l, c.want) || e != api.OK {
			t.Errorf("Fits(O, %v): %v %v, not %v", c.time, l, e, c.want)
		}
	}
}
