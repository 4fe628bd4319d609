package span_test

import (
	"slices"
	"testing"

	"tactus/api"
	"tactus/span"
)

// P1.7: the order of the arguments of Add and Mul does not count.
func TestOrder(t *testing.T) {
	for _, a := range validTimes() {
		for _, b := range validTimes() {
			for _, do := range []operation{span.Add, span.Mul} {
				x, e := do(a, b)
				y, f := do(b, a)
				if x != y || e != f {
					t.Fatalf("%v and %v: %v %v, but %v %v", a, b, x, e, y, f)
				}
			}
		}
	}
}

// P1.7: Sub takes back what Add added, Div what Mul multiplied.
func TestTakenBack(t *testing.T) {
	sums, products := 0, 0
	for _, a := range validTimes() {
		for _, b := range validTimes() {
			if sum, e := span.Add(a, b); e == api.OK {
				sums++
				if x, e := span.Sub(sum, b); x != a || e != api.OK {
					t.Fatalf("%v + %v - %v: %v %v", a, b, b, x, e)
				}
			}
			if product, e := span.Mul(a, b); e == api.OK && b.N > 0 {
				products++
				if x, e := span.Div(product, b); x != a || e != api.OK {
					t.Fatalf("%v * %v / %v: %v %v", a, b, b, x, e)
				}
			}
		}
	}
	if sums < 1000 || products < 1000 {
		t.Errorf("only %d sums and %d products", sums, products)
	}
}

// P1.8: the order of a list does not count for its sum.
func TestSumOrder(t *testing.T) {
	finest := over(1, api.MaxDen)
	for _, l := range [][]api.Time{
		{over(1, 2), over(1, 3), over(1, 6), over(7, 4)},
		{over(api.MaxNum-2, 1), over(1, 2), over(0, 1), over(1, 2)},
		{finest, over(1, 3), over(2, 3), over(1, 2)},
		{over(2, 5), over(3, 7), over(18, 35), over(2, 3)},
	} {
		var sum api.Time
		valid := 0
		for _, order := range orders(l) {
			x, e := span.Sum(order)
			if e == api.ErrLong && x == (api.Time{}) {
				continue
			}
			if valid > 0 && x != sum || e != api.OK {
				t.Errorf("Sum(%v): %v %v, not %v", order, x, e, sum)
			}
			sum = x
			valid++
		}
		if valid == 0 {
			t.Errorf("%v: no order has a sum", l)
		}
	}
}

// orders are all orders of l.
func orders(l []api.Time) [][]api.Time {
	if len(l) == 0 {
		return [][]api.Time{nil}
	}
	var all [][]api.Time
	for i, first := range l {
		for _, rest := range orders(slices.Delete(slices.Clone(l), i, i+1)) {
			all = append(all, append([]api.Time{first}, rest...))
		}
	}
	return all
}

// P1.9: b fits so many times into a, and the rest is less than b.
func TestWholeExact(t *testing.T) {
	count := 0
	for _, a := range validTimes() {
		for _, b := range validTimes() {
			if b.N == 0 {
				continue
			}
			// a = q b + r / (a.D b.D), with numbers below 2^61
			n, d := uint64(a.N)*uint64(b.D), uint64(b.N)*uint64(a.D)
			q := n / d
			want, f := ratio(0, n-q*d, uint64(a.D)*uint64(b.D))
			if f != api.OK {
				q = 0
			}
			whole, rest, e := span.Whole(a, b)
			if uint64(whole) != q || rest != want || e != f {
				t.Fatalf("Whole(%v, %v): %d %v %v, not %d %v %v", a, b, whole, rest, e, q, want, f)
			}
			if e != api.OK {
				continue
			}
			count++
			if order, e := span.Compare(rest, b); order != -1 || e != api.OK {
				t.Fatalf("Whole(%v, %v): rest %v", a, b, rest)
			}
		}
	}
	if count < 1000 {
		t.Errorf("only %d", count)
	}
}

// P1.10: a text is read back.
func TestReadBack(t *testing.T) {
	for _, x := range validTimes() {
		s, e := span.Text(x)
		if e != api.OK {
			t.Fatal(x, e)
		}
		if y, e := span.Parse(s); y != x || e != api.OK {
			t.Errorf("%v: %q is read as %v %v", x, s, y, e)
		}
	}
}

// P1.10: what is read has the text that was read.
func TestWrittenBack(t *testing.T) {
	read := 0
	for _, s := range texts("0123/x", 5) {
		x, e := span.Parse(s)
		if e != api.OK {
			continue
		}
		read++
		if y, e := span.Text(x); y != s || e != api.OK {
			t.Errorf("%q is read as %v, which has the text %q %v", s, x, y, e)
		}
	}
	if read < 300 {
		t.Errorf("only %d texts are read", read)
	}
}

// texts are all texts of up to most of these letters.
func texts(letters string, most int) []string {
	all, last := []string{""}, []string{""}
	for range most {
		var next []string
		for _, s := range last {
			for _, r := range letters {
				next = append(next, s+string(r))
			}
		}
		all, last = append(all, next...), next
	}
	return all
}
