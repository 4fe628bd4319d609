package span_test

import (
	"math"
	"math/bits"
	"slices"
	"testing"

	"tactus/api"
	"tactus/span"
)

type operation func(a, b api.Time) (api.Time, api.Errno)

func over(n, d int) api.Time { return api.Time{N: n, D: d} }

// P1.1: Check.
func TestCheck(t *testing.T) {
	for _, c := range []struct {
		time api.Time
		want api.Errno
	}{
		{over(0, 1), api.OK}, {over(1, 1), api.OK}, {over(3, 2), api.OK}, {over(2, 3), api.OK},
		{over(2, 4), api.ErrForm}, {over(0, 2), api.ErrForm}, {over(6, 3), api.ErrForm}, {over(9, 6), api.ErrForm}, {over(7, 7), api.ErrForm},
		{over(0, 0), api.ErrRange}, {over(1, 0), api.ErrRange}, {over(1, -1), api.ErrRange}, {over(-1, 1), api.ErrRange}, {over(-1, -1), api.ErrRange},
		{over(api.MaxNum, 1), api.OK}, {over(api.MaxNum+1, 1), api.ErrRange}, {over(api.MaxNum-1, api.MaxDen), api.OK},
		{over(1, api.MaxDen), api.OK}, {over(1, api.MaxDen+1), api.ErrRange}, {over(api.MaxNum, api.MaxDen), api.ErrForm},
		// A range comes before a divisor.
		{over(api.MaxNum+2, 2), api.ErrRange}, {over(2, api.MaxDen+2), api.ErrRange}, {over(-2, 4), api.ErrRange},
		{over(math.MinInt, math.MinInt), api.ErrRange}, {over(math.MaxInt, math.MaxInt), api.ErrRange},
	} {
		if e := span.Check(c.time); e != c.want {
			t.Errorf("Check(%v): %v, not %v", c.time, e, c.want)
		}
	}
}

// P1.1: Make.
func TestMake(t *testing.T) {
	for _, c := range []struct {
		n, d int
		want api.Time
		e    api.Errno
	}{
		{6, 4, over(3, 2), api.OK}, {0, 7, over(0, 1), api.OK}, {5, 1, over(5, 1), api.OK}, {5, 5, over(1, 1), api.OK}, {4, 6, over(2, 3), api.OK},
		{-1, 2, api.Time{}, api.ErrRange}, {1, -2, api.Time{}, api.ErrRange}, {-4, -2, api.Time{}, api.ErrRange},
		{1, 0, api.Time{}, api.ErrZero}, {0, 0, api.Time{}, api.ErrZero}, {math.MaxInt, 0, api.Time{}, api.ErrZero},
		{-1, 0, api.Time{}, api.ErrRange}, {math.MinInt, math.MinInt, api.Time{}, api.ErrRange}, {0, math.MinInt, api.Time{}, api.ErrRange},
		{api.MaxNum, 1, over(api.MaxNum, 1), api.OK}, {api.MaxNum + 1, 1, api.Time{}, api.ErrLong}, {api.MaxNum + 2, 2, over(api.MaxNum/2+1, 1), api.OK},
		{1, api.MaxDen, over(1, api.MaxDen), api.OK}, {1, api.MaxDen + 1, api.Time{}, api.ErrLong}, {1, 2097152, api.Time{}, api.ErrLong},
		{2, 2 * api.MaxDen, over(1, api.MaxDen), api.OK}, {2 * api.MaxNum, 2, over(api.MaxNum, 1), api.OK}, {2*api.MaxNum + 2, 2, api.Time{}, api.ErrLong},
		{0, math.MaxInt, over(0, 1), api.OK}, {math.MaxInt, math.MaxInt, over(1, 1), api.OK}, {1, math.MaxInt, api.Time{}, api.ErrLong}, {math.MaxInt, 1, api.Time{}, api.ErrLong},
	} {
		if x, e := span.Make(c.n, c.d); x != c.want || e != c.e {
			t.Errorf("Make(%d, %d): %v %v, not %v %v", c.n, c.d, x, e, c.want, c.e)
		}
	}
}

// P1.2: the cases of each operation.
func TestOperations(t *testing.T) {
	most, finest, none := over(api.MaxNum, 1), over(1, api.MaxDen), api.Time{}
	for _, c := range []struct {
		name string
		do   operation
		a, b api.Time
		want api.Time
		e    api.Errno
	}{
		{"Add", span.Add, over(1, 2), over(1, 3), over(5, 6), api.OK},
		{"Add", span.Add, over(1, 6), over(1, 3), over(1, 2), api.OK},
		{"Add", span.Add, over(0, 1), over(2, 3), over(2, 3), api.OK},
		{"Add", span.Add, over(api.MaxNum-1, 1), over(1, 1), most, api.OK},
		{"Add", span.Add, most, over(1, 1), none, api.ErrLong},
		{"Add", span.Add, most, over(1, 2), none, api.ErrLong},
		{"Add", span.Add, finest, over(1, 3), none, api.ErrLong},
		{"Add", span.Add, finest, over(api.MaxDen-1, api.MaxDen), over(1, 1), api.OK},
		{"Sub", span.Sub, over(1, 2), over(1, 3), over(1, 6), api.OK},
		{"Sub", span.Sub, over(5, 6), over(5, 6), over(0, 1), api.OK},
		{"Sub", span.Sub, over(1, 3), over(1, 2), none, api.ErrRange},
		{"Sub", span.Sub, over(1, 3), finest, none, api.ErrLong},
		{"Sub", span.Sub, finest, over(1, 3), none, api.ErrRange},
		{"Sub", span.Sub, over(1, 1), over(api.MaxDen-1, api.MaxDen), finest, api.OK},
		{"Mul", span.Mul, over(2, 3), over(9, 4), over(3, 2), api.OK},
		{"Mul", span.Mul, over(0, 1), most, over(0, 1), api.OK},
		{"Mul", span.Mul, most, finest, over(1<<20, 1), api.OK},
		{"Mul", span.Mul, most, over(1, 1), most, api.OK},
		{"Mul", span.Mul, most, over(3, 2), none, api.ErrLong},
		{"Mul", span.Mul, most, over(1<<23, 1), none, api.ErrLong},
		{"Mul", span.Mul, most, over(1<<24-1, 1), none, api.ErrLong},
		{"Mul", span.Mul, most, over(1<<24, 1), none, api.ErrLong},
		{"Mul", span.Mul, most, most, none, api.ErrLong},
		{"Mul", span.Mul, finest, over(1, 2), none, api.ErrLong},
		{"Mul", span.Mul, finest, finest, none, api.ErrLong},
		{"Div", span.Div, over(2, 3), over(4, 9), over(3, 2), api.OK},
		{"Div", span.Div, over(0, 1), over(5, 7), over(0, 1), api.OK},
		{"Div", span.Div, over(2, 3), over(0, 1), none, api.ErrZero},
		{"Div", span.Div, over(0, 1), over(0, 1), none, api.ErrZero},
		{"Div", span.Div, over(1, 1), over(api.MaxDen, 1), finest, api.OK},
		{"Div", span.Div, over(1, 1), most, none, api.ErrLong},
		{"Div", span.Div, most, over(1, 2), none, api.ErrLong},
		{"Div", span.Div, over(1<<20, 1), finest, most, api.OK},
	} {
		if x, e := c.do(c.a, c.b); x != c.want || e != c.e {
			t.Errorf("%s(%v, %v): %v %v, not %v %v", c.name, c.a, c.b, x, e, c.want, c.e)
		}
	}
}

// P1.2: results that are valid, though the products before they are cut to lowest terms do not fit.
func TestWideProducts(t *testing.T) {
	a, b, product := over(1<<40-1, 1<<20), over(1<<39, 1<<20-1), over(1<<39+1<<19, 1)
	for _, c := range []struct {
		name string
		do   operation
		a, b api.Time
		want api.Time
	}{
		{"Mul", span.Mul, a, b, product}, // 2^79 - 2^39 over 2^40 - 2^20
		{"Mul", span.Mul, b, a, product},
		{"Mul", span.Mul, over(1<<40, 3), over(3, 1<<20), over(1<<20, 1)},
		{"Div", span.Div, product, a, b},
		{"Div", span.Div, a, over(1<<20-1, 1<<20), over(1<<20+1, 1)},
		{"Add", span.Add, a, over(1, 1<<20), over(1<<20, 1)}, // 2^60 over 2^40
		{"Sub", span.Sub, a, over(1<<20-1, 1<<20), over(1<<20-1, 1)},
	} {
		if x, e := c.do(c.a, c.b); x != c.want || e != api.OK {
			t.Errorf("%s(%v, %v): %v %v, not %v", c.name, c.a, c.b, x, e, c.want)
		}
	}
}

// gcd is a loop, and so shares nothing with the program's own way.
func gcd(a, b uint64) uint64 {
	for a > 0 {
		a, b = b%a, a
	}
	return b
}

// ratio is the exact time of a numerator of 128 bits over d.
func ratio(high, low, d uint64) (api.Time, api.Errno) {
	g := gcd(bits.Rem64(high, low, d), d)
	if high >= g {
		return api.Time{}, api.ErrLong
	}
	n, _ := bits.Div64(high, low, g)
	if n > api.MaxNum || d/g > api.MaxDen {
		return api.Time{}, api.ErrLong
	}
	return over(int(n), int(d/g)), api.OK
}

// exact computes each operation on valid times another way than the program.
func exact(name string, a, b api.Time) (api.Time, api.Errno) {
	an, ad, bn, bd := uint64(a.N), uint64(a.D), uint64(b.N), uint64(b.D)
	switch name {
	case "Add":
		return ratio(0, an*bd+bn*ad, ad*bd)
	case "Sub":
		if an*bd < bn*ad {
			return api.Time{}, api.ErrRange
		}
		return ratio(0, an*bd-bn*ad, ad*bd)
	case "Mul":
		high, low := bits.Mul64(an, bn)
		return ratio(high, low, ad*bd)
	}
	if bn == 0 {
		return api.Time{}, api.ErrZero
	}
	return ratio(0, an*bd, ad*bn)
}

// validTimes are small fractions, and some near every limit.
func validTimes() []api.Time {
	var l []api.Time
	for d := 1; d <= 7; d++ {
		for n := 0; n <= 7; n++ {
			if gcd(uint64(n), uint64(d)) == 1 {
				l = append(l, over(n, d))
			}
		}
	}
	for _, n := range []int{1, 3, 5, 1 << 20, 1<<20 - 1, 1<<20 + 1, 1 << 39, 1<<39 + 1, 1<<40 - 1, 1 << 40} {
		for _, d := range []int{1, 2, 3, 15, 1 << 10, 1<<19 + 1, 1<<20 - 1, 1 << 20} {
			if gcd(uint64(n), uint64(d)) == 1 {
				l = append(l, over(n, d))
			}
		}
	}
	return l
}

// anyTimes are times of all kinds, most of them not valid.
func anyTimes() []api.Time {
	numbers := []int{math.MinInt, math.MinInt + 1, -api.MaxNum, -2, -1, 0, 1, 2, 3, 4, api.MaxDen, api.MaxDen + 1, api.MaxNum, api.MaxNum + 1, 1 << 62, math.MaxInt}
	var l []api.Time
	for _, n := range numbers {
		for _, d := range numbers {
			l = append(l, over(n, d))
		}
	}
	return l
}

func operations() map[string]operation {
	return map[string]operation{"Add": span.Add, "Sub": span.Sub, "Mul": span.Mul, "Div": span.Div}
}

// P1.2: every operation is exact.
func TestExact(t *testing.T) {
	for name, do := range operations() {
		for _, a := range validTimes() {
			for _, b := range validTimes() {
				want, f := exact(name, a, b)
				if x, e := do(a, b); x != want || e != f {
					t.Fatalf("%s(%v, %v): %v %v, not %v %v", name, a, b, x, e, want, f)
				}
			}
		}
	}
}

// P1.2, P1.3, P1.5: the error of a, then that of b, then those of the operation; with an error there is no result.
func TestInvalidTimes(t *testing.T) {
	for _, a := range anyTimes() {
		for _, b := range anyTimes() {
			want := span.Check(a)
			if want == api.OK {
				want = span.Check(b)
			}
			if want == api.OK {
				continue
			}
			for name, do := range operations() {
				if x, e := do(a, b); e != want || x != (api.Time{}) {
					t.Fatalf("%s(%v, %v): %v %v, not %v", name, a, b, x, e, want)
				}
			}
			if n, e := span.Compare(a, b); e != want || n != 0 {
				t.Fatalf("Compare(%v, %v): %d %v, not %v", a, b, n, e, want)
			}
			if n, rest, e := span.Whole(a, b); e != want || n != 0 || rest != (api.Time{}) {
				t.Fatalf("Whole(%v, %v): %d %v %v, not %v", a, b, n, rest, e, want)
			}
		}
	}
	for _, c := range []struct {
		a, b api.Time
		want api.Errno
	}{
		{over(2, 4), over(0, 0), api.ErrForm}, {over(0, 0), over(2, 4), api.ErrRange},
		{over(2, 4), over(0, 1), api.ErrForm}, {over(1, 2), over(9, 6), api.ErrForm}, {over(1, 2), over(0, 2), api.ErrForm},
	} {
		for name, do := range operations() {
			if _, e := do(c.a, c.b); e != c.want {
				t.Errorf("%s(%v, %v): %v, not %v", name, c.a, c.b, e, c.want)
			}
		}
	}
}

// P1.1: Make is exact, and OK or ErrLong for all numbers that it takes.
func TestMakeExact(t *testing.T) {
	numbers := []int{0, 1, 2, 3, 4, 5, 6, 12, 30, 1 << 19, 1<<20 - 1, 1 << 20, 1<<20 + 1, 1 << 21, 1<<40 - 1, 1 << 40, 1<<40 + 1, 3 << 40, 1<<60 - 1, 1 << 62, math.MaxInt - 1, math.MaxInt}
	for _, n := range numbers {
		for _, d := range numbers {
			if d == 0 {
				continue
			}
			want, f := ratio(0, uint64(n), uint64(d))
			if x, e := span.Make(n, d); x != want || e != f {
				t.Errorf("Make(%d, %d): %v %v, not %v %v", n, d, x, e, want, f)
			}
		}
	}
}

// P1.3: Compare.
func TestCompare(t *testing.T) {
	for _, c := range []struct {
		a, b api.Time
		want int
	}{
		{over(2, 3), over(5, 8), 1}, {over(5, 8), over(2, 3), -1}, {over(7, 5), over(7, 5), 0}, {over(0, 1), over(0, 1), 0},
		{over(0, 1), over(1, api.MaxDen), -1}, {over(1, api.MaxDen-1), over(1, api.MaxDen), 1},
		{over(api.MaxNum, 1), over(api.MaxNum, 3), 1}, {over(api.MaxNum, api.MaxDen-1), over(api.MaxNum-2, api.MaxDen-1), 1},
		{over(api.MaxNum-1, api.MaxDen), over(api.MaxNum, api.MaxDen-1), -1},
	} {
		if n, e := span.Compare(c.a, c.b); n != c.want || e != api.OK {
			t.Errorf("Compare(%v, %v): %d %v, not %d", c.a, c.b, n, e, c.want)
		}
	}
	for _, a := range validTimes() {
		for _, b := range validTimes() {
			want := 0
			if left, right := a.N*b.D, b.N*a.D; left < right {
				want = -1
			} else if left > right {
				want = 1
			}
			if n, e := span.Compare(a, b); n != want || e != api.OK {
				t.Fatalf("Compare(%v, %v): %d %v, not %d", a, b, n, e, want)
			}
		}
	}
}

// P1.4: Sum.
func TestSum(t *testing.T) {
	most, finest := over(api.MaxNum, 1), over(1, api.MaxDen)
	for _, c := range []struct {
		list []api.Time
		want api.Time
		e    api.Errno
	}{
		{nil, over(0, 1), api.OK}, {[]api.Time{}, over(0, 1), api.OK}, {[]api.Time{over(3, 2)}, over(3, 2), api.OK}, {[]api.Time{most}, most, api.OK},
		{[]api.Time{over(1, 2), over(1, 3), over(1, 6)}, over(1, 1), api.OK}, {[]api.Time{over(0, 1), over(0, 1)}, over(0, 1), api.OK},
		{[]api.Time{most, over(1, 1)}, api.Time{}, api.ErrLong},
		// An invalid time counts before a sum, wherever it stands; of two the first one.
		{[]api.Time{most, over(1, 1), over(2, 4)}, api.Time{}, api.ErrForm}, {[]api.Time{over(1, 1), over(2, 4), {}}, api.Time{}, api.ErrForm},
		{[]api.Time{over(1, 1), {}, over(2, 4)}, api.Time{}, api.ErrRange}, {[]api.Time{over(2, 4)}, api.Time{}, api.ErrForm},
		// A sum in between counts, though the sum of all is valid.
		{[]api.Time{finest, over(1, 3), over(2, 3)}, api.Time{}, api.ErrLong}, {[]api.Time{over(1, 3), over(2, 3), finest}, over(api.MaxDen+1, api.MaxDen), api.OK},
	} {
		before := slices.Clone(c.list)
		if x, e := span.Sum(c.list); x != c.want || e != c.e {
			t.Errorf("Sum(%v): %v %v, not %v %v", before, x, e, c.want, c.e)
		}
		if !slices.Equal(before, c.list) {
			t.Errorf("Sum changed %v to %v", before, c.list)
		}
	}
	many := slices.Repeat([]api.Time{over(1, 3)}, 3000)
	if x, e := span.Sum(many); x != over(1000, 1) || e != api.OK {
		t.Errorf("Sum of thirds: %v %v", x, e)
	}
}

// P1.5: Whole.
func TestWhole(t *testing.T) {
	for _, c := range []struct {
		a, b api.Time
		n    int
		rest api.Time
		e    api.Errno
	}{
		{over(7, 2), over(1, 1), 3, over(1, 2), api.OK}, {over(1, 2), over(3, 1), 0, over(1, 2), api.OK}, {over(6, 1), over(3, 2), 4, over(0, 1), api.OK},
		{over(5, 3), over(2, 3), 2, over(1, 3), api.OK}, {over(0, 1), over(1, 7), 0, over(0, 1), api.OK}, {over(2, 3), over(2, 3), 1, over(0, 1), api.OK},
		{over(1, 1), over(0, 1), 0, api.Time{}, api.ErrZero}, {over(0, 1), over(0, 1), 0, api.Time{}, api.ErrZero},
		{over(1, 1), over(3, api.MaxDen), 349525, over(1, api.MaxDen), api.OK}, {over(1, 3), over(1, api.MaxDen), 0, api.Time{}, api.ErrLong},
		{over(1, api.MaxDen), over(1, 3), 0, over(1, api.MaxDen), api.OK},
		{over(api.MaxNum, 1), over(1, api.MaxDen), 1 << 60, over(0, 1), api.OK}, {over(api.MaxNum, 1), over(api.MaxNum-1, 1), 1, over(1, 1), api.OK},
	} {
		if n, rest, e := span.Whole(c.a, c.b); n != c.n || rest != c.rest || e != c.e {
			t.Errorf("Whole(%v, %v): %d %v %v, not %d %v %v", c.a, c.b, n, rest, e, c.n, c.rest, c.e)
		}
	}
}
