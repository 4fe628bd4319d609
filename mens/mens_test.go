package mens_test

import (
	"math"
	"slices"
	"testing"

	"tactus/api"
	"tactus/mens"
	"tactus/span"
)

func made(most, mod, tem, pro int) api.Mens {
	return api.Mens{Max: most, Mod: mod, Tem: tem, Pro: pro}
}

func over(n, d int) api.Time { return api.Time{N: n, D: d} }

// known is a mensuration as the document describes it, written out: minims has the full durations of the values
// from maxima to semibreve, perfect the perfect values from the smallest to the greatest.
type known struct {
	mens    api.Mens
	text    string
	minims  [4]int
	perfect []int
}

// allKnown are the 16 mensurations, each at its number.
func allKnown() []known {
	return []known{
		{made(2, 2, 2, 2), "C", [4]int{16, 8, 4, 2}, nil},
		{made(2, 2, 2, 3), "C.", [4]int{24, 12, 6, 3}, []int{4}},
		{made(2, 2, 3, 2), "O", [4]int{24, 12, 6, 2}, []int{3}},
		{made(2, 2, 3, 3), "O.", [4]int{36, 18, 9, 3}, []int{4, 3}},
		{made(2, 3, 2, 2), "23C", [4]int{24, 12, 4, 2}, []int{2}},
		{made(2, 3, 2, 3), "23C.", [4]int{36, 18, 6, 3}, []int{4, 2}},
		{made(2, 3, 3, 2), "23O", [4]int{36, 18, 6, 2}, []int{3, 2}},
		{made(2, 3, 3, 3), "23O.", [4]int{54, 27, 9, 3}, []int{4, 3, 2}},
		{made(3, 2, 2, 2), "32C", [4]int{24, 8, 4, 2}, []int{1}},
		{made(3, 2, 2, 3), "32C.", [4]int{36, 12, 6, 3}, []int{4, 1}},
		{made(3, 2, 3, 2), "32O", [4]int{36, 12, 6, 2}, []int{3, 1}},
		{made(3, 2, 3, 3), "32O.", [4]int{54, 18, 9, 3}, []int{4, 3, 1}},
		{made(3, 3, 2, 2), "33C", [4]int{36, 12, 4, 2}, []int{2, 1}},
		{made(3, 3, 2, 3), "33C.", [4]int{54, 18, 6, 3}, []int{4, 2, 1}},
		{made(3, 3, 3, 2), "33O", [4]int{54, 18, 6, 2}, []int{3, 2, 1}},
		{made(3, 3, 3, 3), "33O.", [4]int{81, 27, 9, 3}, []int{4, 3, 2, 1}},
	}
}

// fulls are the full durations of the eight values, from the maxima on.
func (k known) fulls() []api.Time {
	var l []api.Time
	for _, n := range k.minims {
		l = append(l, over(n, 1))
	}
	return append(l, over(1, 1), over(1, 2), over(1, 4), over(1, 8))
}

// parts are the parts of the eight values, from the maxima on.
func (k known) parts() []int {
	return []int{k.mens.Max, k.mens.Mod, k.mens.Tem, k.mens.Pro, 2, 2, 2, 2}
}

// anyInts are ints of all sizes.
func anyInts() []int {
	l := []int{
		math.MinInt, math.MinInt + 1, math.MinInt + 2, math.MinInt + 3, math.MinInt / 2, -1 << 32, math.MinInt32, -256, -254, -253, 127, 128, 255, 256, 257, 258, 259,
		1 << 16, 1<<16 + 2, 1 << 31, 1 << 32, 1<<32 + 1, 1<<32 + 2, 1<<32 + 3, 1<<40 + 5, 1 << 62, math.MaxInt - 3, math.MaxInt - 2, math.MaxInt - 1, math.MaxInt,
	}
	for n := -20; n <= 40; n++ {
		l = append(l, n)
	}
	return l
}

// isPart tells whether n may be a number of a mensuration.
func isPart(n int) bool { return n == 2 || n == 3 }

// invalid are mensurations of which at least one number is neither 2 nor 3.
func invalid() []api.Mens {
	var l []api.Mens
	for _, n := range anyInts() {
		if isPart(n) {
			continue
		}
		for _, k := range allKnown() {
			a, b, c, d := k.mens, k.mens, k.mens, k.mens
			a.Max, b.Mod, c.Tem, d.Pro = n, n, n, n
			l = append(l, a, b, c, d)
		}
		l = append(l, made(n, n, n, n), made(n, 2, 3, n), made(2, n, n, 3))
	}
	return l
}

// badTimes are times that span.Check refuses, with its errors.
func badTimes() map[api.Time]api.Errno {
	l := map[api.Time]api.Errno{
		over(2, 4): api.ErrForm, over(0, 2): api.ErrForm, over(6, 3): api.ErrForm, over(8, 2): api.ErrForm, over(2, 16): api.ErrForm, over(81, 81): api.ErrForm,
		over(0, 0): api.ErrRange, over(4, 0): api.ErrRange, over(-4, 1): api.ErrRange, over(4, -1): api.ErrRange, over(-4, -1): api.ErrRange, over(-1, -8): api.ErrRange,
		over(api.MaxNum+1, 1): api.ErrRange, over(1, api.MaxDen+1): api.ErrRange,
	}
	for _, n := range anyInts() {
		if n < 0 || n > api.MaxNum {
			l[over(n, 1)] = api.ErrRange
		}
		if n < 1 || n > api.MaxDen {
			l[over(1, n)] = api.ErrRange
			l[over(n, n)] = api.ErrRange
		}
	}
	return l
}

// P5.1: valid mensurations.
func TestCheck(t *testing.T) {
	for _, k := range allKnown() {
		if e := mens.Check(k.mens); e != api.OK {
			t.Errorf("Check(%v): %v", k.mens, e)
		}
	}
	for _, m := range []api.Mens{{}, made(2, 2, 2, 4), made(1, 2, 2, 2), made(2, 1, 3, 3), made(3, 3, 0, 3), made(3, -2, 3, 3), made(5, 2, 2, 2), made(2, 2, 6, 2), made(-2, -2, -2, -2)} {
		if e := mens.Check(m); e != api.ErrMens {
			t.Errorf("Check(%v): %v", m, e)
		}
	}
}

// P5.1: any int in each field.
func TestCheckFields(t *testing.T) {
	for _, m := range invalid() {
		if e := mens.Check(m); e != api.ErrMens {
			t.Errorf("Check(%v): %v", m, e)
		}
	}
	for a := range 6 {
		for b := range 6 {
			for c := range 6 {
				for d := range 6 {
					want := api.ErrMens
					if isPart(a) && isPart(b) && isPart(c) && isPart(d) {
						want = api.OK
					}
					if e := mens.Check(made(a, b, c, d)); e != want {
						t.Errorf("Check(%d, %d, %d, %d): %v, not %v", a, b, c, d, e, want)
					}
				}
			}
		}
	}
}

// P5.1: the error of the mensuration comes before that of a value.
func TestInvalidWithValues(t *testing.T) {
	for _, m := range invalid() {
		for _, v := range []int{math.MinInt, -1, 0, 1, 2, 3, 4, 5, 6, 7, 8, 9, math.MaxInt} {
			if n, e := mens.Parts(m, v); n != 0 || e != api.ErrMens {
				t.Fatalf("Parts(%v, %d): %d %v", m, v, n, e)
			}
			if x, e := mens.Full(m, v); x != (api.Time{}) || e != api.ErrMens {
				t.Fatalf("Full(%v, %d): %v %v", m, v, x, e)
			}
			if n, e := mens.Above(m, v); n != 0 || e != api.ErrMens {
				t.Fatalf("Above(%v, %d): %d %v", m, v, n, e)
			}
		}
	}
}

// P5.1: the error of the mensuration comes before that of a time, and in the functions without another argument.
func TestInvalidAlone(t *testing.T) {
	bad := badTimes()
	for _, m := range invalid() {
		if l, e := mens.Levels(m); len(l) != 0 || e != api.ErrMens {
			t.Fatalf("Levels(%v): %v %v", m, l, e)
		}
		if s, e := mens.Text(m); s != "" || e != api.ErrMens {
			t.Fatalf("Text(%v): %q %v", m, s, e)
		}
		if n, e := mens.Number(m); n != 0 || e != api.ErrMens {
			t.Fatalf("Number(%v): %d %v", m, n, e)
		}
		for _, x := range []api.Time{{}, over(1, 1), over(4, 1), over(2, 4), over(-1, 1), over(0, 1), over(math.MinInt, math.MinInt), over(math.MaxInt, math.MaxInt)} {
			if l, e := mens.Fits(m, x); len(l) != 0 || e != api.ErrMens {
				t.Fatalf("Fits(%v, %v): %v %v", m, x, l, e)
			}
		}
	}
	for x := range bad {
		for _, m := range []api.Mens{{}, made(2, 2, 3, 4), made(math.MinInt, 2, 2, 2), made(3, 3, 3, math.MaxInt)} {
			if l, e := mens.Fits(m, x); len(l) != 0 || e != api.ErrMens {
				t.Errorf("Fits(%v, %v): %v %v", m, x, l, e)
			}
		}
	}
}

// P5.2: Parts and Full of all values of all mensurations.
func TestValues(t *testing.T) {
	for _, k := range allKnown() {
		parts, fulls := k.parts(), k.fulls()
		for v := 1; v <= 8; v++ {
			if n, e := mens.Parts(k.mens, v); n != parts[v-1] || e != api.OK {
				t.Errorf("Parts(%s, %d): %d %v, not %d", k.text, v, n, e, parts[v-1])
			}
			if x, e := mens.Full(k.mens, v); x != fulls[v-1] || e != api.OK {
				t.Errorf("Full(%s, %d): %v %v, not %v", k.text, v, x, e, fulls[v-1])
			}
		}
	}
}

// P5.2: Above for all values of all mensurations.
func TestAbove(t *testing.T) {
	for _, k := range allKnown() {
		for v := 1; v <= 8; v++ {
			want := 0
			for _, above := range k.perfect {
				if above < v {
					want = above
					break
				}
			}
			if n, e := mens.Above(k.mens, v); n != want || e != api.OK {
				t.Errorf("Above(%s, %d): %d %v, not %d", k.text, v, n, e, want)
			}
		}
	}
}

// P5.2: what is no value.
func TestNoValues(t *testing.T) {
	for _, k := range allKnown() {
		for _, v := range anyInts() {
			if v >= 1 && v <= 8 {
				continue
			}
			if n, e := mens.Parts(k.mens, v); n != 0 || e != api.ErrRange {
				t.Errorf("Parts(%s, %d): %d %v", k.text, v, n, e)
			}
			if x, e := mens.Full(k.mens, v); x != (api.Time{}) || e != api.ErrRange {
				t.Errorf("Full(%s, %d): %v %v", k.text, v, x, e)
			}
			if n, e := mens.Above(k.mens, v); n != 0 || e != api.ErrRange {
				t.Errorf("Above(%s, %d): %d %v", k.text, v, n, e)
			}
		}
	}
}

// P5.3: the perfect values of all mensurations.
func TestLevels(t *testing.T) {
	for _, k := range allKnown() {
		l, e := mens.Levels(k.mens)
		if !slices.Equal(l, k.perfect) || e != api.OK {
			t.Errorf("Levels(%s): %v %v, not %v", k.text, l, e, k.perfect)
		}
		for i := range l {
			l[i] = -1
		}
		if again, e := mens.Levels(k.mens); !slices.Equal(again, k.perfect) || e != api.OK {
			t.Errorf("Levels(%s) after a change of its result: %v %v", k.text, again, e)
		}
	}
}

// P5.6: each time that is a full duration of any value under any mensuration, and many others.
func TestFits(t *testing.T) {
	times := []api.Time{over(api.MaxNum, 1), over(api.MaxNum-1, api.MaxDen), over(1, api.MaxDen), over(1, 3), over(2, 3), over(3, 2), over(3, 8), over(81, 2), over(81, 8), over(162, 1), over(243, 1)}
	for d := 1; d <= 32; d *= 2 {
		for n := range 200 {
			if x := over(n, d); span.Check(x) == api.OK {
				times = append(times, x)
			}
		}
	}
	for _, k := range allKnown() {
		found := 0
		for _, x := range times {
			var want []int
			if i := slices.Index(k.fulls(), x); i >= 0 {
				want = []int{i + 1}
			}
			l, e := mens.Fits(k.mens, x)
			if !slices.Equal(l, want) || e != api.OK {
				t.Errorf("Fits(%s, %v): %v %v, not %v", k.text, x, l, e, want)
			}
			found += len(l)
		}
		if found != 8 {
			t.Errorf("%s: %d values fit", k.text, found)
		}
	}
}

// P5.6: the greatest and the least full duration, and their neighbours.
func TestFitsEnds(t *testing.T) {
	all, none := made(3, 3, 3, 3), made(2, 2, 2, 2)
	for _, c := range []struct {
		mens api.Mens
		time api.Time
		want []int
	}{
		{all, over(81, 1), []int{1}}, {all, over(80, 1), nil}, {all, over(82, 1), nil}, {all, over(16, 1), nil}, {none, over(16, 1), []int{1}}, {none, over(81, 1), nil}, {none, over(32, 1), nil},
		{all, over(1, 8), []int{8}}, {none, over(1, 8), []int{8}}, {all, over(1, 16), nil}, {none, over(1, 16), nil}, {all, over(1, 9), nil}, {none, over(3, 16), nil},
		{all, over(0, 1), nil}, {none, over(0, 1), nil}, {all, over(1, 1), []int{5}}, {none, over(1, 1), []int{5}}, {none, over(2, 1), []int{4}}, {all, over(2, 1), nil}, {all, over(3, 1), []int{4}},
	} {
		if l, e := mens.Fits(c.mens, c.time); !slices.Equal(l, c.want) || e != api.OK {
			t.Errorf("Fits(%v, %v): %v %v, not %v", c.mens, c.time, l, e, c.want)
		}
	}
}

// P5.6: times that span.Check refuses.
func TestFitsErrors(t *testing.T) {
	for x, want := range badTimes() {
		if e := span.Check(x); e != want {
			t.Fatalf("Check(%v): %v, not %v", x, e, want)
		}
		for _, k := range allKnown() {
			if l, e := mens.Fits(k.mens, x); len(l) != 0 || e != want {
				t.Errorf("Fits(%s, %v): %v %v, not %v", k.text, x, l, e, want)
			}
		}
	}
}
