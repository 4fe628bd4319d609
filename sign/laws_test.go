package sign_test

import (
	"slices"
	"testing"

	"tactus/api"
	"tactus/sign"
)

// shortParts are the signs of valid parts of up to six signs.
func shortParts() [][]api.Sign {
	return slices.DeleteFunc(tuples(6, n(3), d(), tied(), last()), func(l []api.Sign) bool { return checked(part(l...)) != fault{} })
}

// firstsOf are the numbers of the first signs of the ligatures of a valid part.
func firstsOf(t *testing.T, l []api.Sign) []int {
	firsts, _, e := sign.Ligatures(part(l...))
	if e != api.OK {
		t.Fatal(l, e)
	}
	return firsts
}

// P8.5: the numbers of Count add up.
func TestCountsAddUp(t *testing.T) {
	long := slices.Repeat([]api.Sign{n(3), d(), tied(), tied(), last(), r(4), {Kind: api.Turn}, {Kind: api.Signum}, {Kind: api.Open}, {Kind: api.Close, N: 4}}, 40)
	for _, l := range append(shortParts(), long) {
		counts, e := sign.Count(part(l...))
		timed, f := sign.Timed(part(l...))
		if e != api.OK || f != api.OK || len(counts) != 12 {
			t.Fatal(l, counts, e, timed, f)
		}
		sum := 0
		for _, k := range counts {
			sum += k
		}
		if sum != len(l) || counts[0]+counts[1]+counts[3] != len(timed) {
			t.Errorf("%v: %v and %v", l, counts, timed)
		}
	}
}

// P8.6: signs that are not Tied, taken out of every place of valid parts; Tied signs taken out leave what the model says.
func TestTakenOut(t *testing.T) {
	for _, l := range shortParts() {
		for i := range l {
			less := slices.Delete(slices.Clone(l), i, i+1)
			got := checked(part(less...))
			if l[i].Kind != api.Tied && got != (fault{}) || got != judged(less) {
				t.Errorf("%v without the sign %d: %v, not %v", l, i, got, judged(less))
			}
		}
	}
}

// P8.6: signs of all other kinds, put in at every place of valid parts; within a ligature they make the sign before them the wrong one.
func TestPutIn(t *testing.T) {
	var others []api.Sign
	for kind := 1; kind <= 12; kind++ {
		if kind != api.Tied {
			others = append(others, someSigns(kind)[:2]...)
		}
	}
	for _, l := range shortParts() {
		firsts := firstsOf(t, l)
		for i := range len(l) + 1 {
			want := fault{api.ErrForm, i - 1}
			if i == len(l) || l[i].Kind != api.Tied || slices.Contains(firsts, i) {
				want = fault{}
			}
			for _, s := range others {
				if got := checked(part(inserted(l, i, s)...)); got != want {
					t.Errorf("%v with %v at %d: %v, not %v", l, s, i, got, want)
				}
			}
			for _, s := range alphabet() {
				more := inserted(l, i, s)
				if got := checked(part(more...)); got != judged(more) {
					t.Errorf("%v: %v, not %v", more, got, judged(more))
				}
			}
		}
	}
}

// P8.6: up to as many signs as there may be.
func TestPutInUpToFull(t *testing.T) {
	l := slices.Repeat([]api.Sign{d(), tied(), last()}, 133)
	for i := range len(l) + 1 {
		want := fault{api.ErrForm, i - 1}
		if i%3 != 2 {
			want = fault{}
		}
		more := inserted(l, i, n(3))
		if got := checked(part(more...)); len(more) != 400 || got != want {
			t.Errorf("%d signs, with a note at %d: %v, not %v", len(more), i, got, want)
		}
		if got := checked(part(inserted(more, i, n(3))...)); got != (fault{api.ErrFull, 0}) {
			t.Errorf("two notes at %d: %v", i, got)
		}
	}
}

// P8.7: ligatures come in order, do not overlap, have at least two signs, and together have all Tied signs.
func TestLigaturesCover(t *testing.T) {
	parts := append(shortParts(), slices.Repeat([]api.Sign{tied(), last(), tied(), tied(), last()}, 80), append(slices.Repeat([]api.Sign{tied()}, 399), last()))
	for _, l := range parts {
		firsts, lasts, e := sign.Ligatures(part(l...))
		if e != api.OK || len(firsts) != len(lasts) {
			t.Fatal(l, firsts, lasts, e)
		}
		in := make([]bool, len(l))
		end := -1
		for k := range firsts {
			if firsts[k] <= end || lasts[k] <= firsts[k] {
				t.Errorf("%v: %v %v", l, firsts, lasts)
			}
			end = lasts[k]
			for i := firsts[k]; i <= end; i++ {
				in[i] = true
				if l[i].Last != (i == end) {
					t.Errorf("%v: %v %v, wrong at %d", l, firsts, lasts, i)
				}
			}
		}
		for i, s := range l {
			if in[i] != (s.Kind == api.Tied) {
				t.Errorf("%v: %v %v, wrong at %d", l, firsts, lasts, i)
			}
		}
	}
}

// P8.8: signs added at every place after the sign with the error, if this is not Tied, do not change the error; at the places after a Tied one and its next sign neither.
func TestErrorKept(t *testing.T) {
	invalid := 0
	for _, l := range tuples(4, alphabet()...) {
		first := checked(part(l...))
		if first.e == api.OK {
			continue
		}
		invalid++
		from := first.at + 1
		if l[first.at].Kind == api.Tied {
			from++
		}
		for i := from; i <= len(l); i++ {
			for _, s := range alphabet() {
				if got := checked(part(inserted(l, i, s)...)); got != first {
					t.Errorf("%v: %v; with %v at %d: %v", l, first, s, i, got)
				}
			}
		}
		more := slices.Concat(l, []api.Sign{last(), n(9), {}, badMens()}, l)
		if got := checked(part(more...)); l[first.at].Kind != api.Tied && got != first {
			t.Errorf("%v: %v; with more signs: %v", l, first, got)
		}
	}
	if invalid < 1000 {
		t.Errorf("only %d invalid parts", invalid)
	}
	for _, p := range []api.Part{{Name: "A", Signs: []api.Sign{n(9)}}, {Name: "a", Signs: slices.Repeat([]api.Sign{d()}, 401)}} {
		first := checked(p)
		for _, s := range alphabet() {
			if got := checked(api.Part{Name: p.Name, Signs: inserted(p.Signs, len(p.Signs), s)}); got != first {
				t.Errorf("%q with %d signs and %v: %v, not %v", p.Name, len(p.Signs), s, got, first)
			}
		}
	}
}
