package sign_test

import (
	"slices"
	"strings"
	"testing"

	"tactus/api"
	"tactus/sign"
)

// alphabet has signs of which short parts are made: valid ones and invalid ones, among them the two of a ligature.
func alphabet() []api.Sign {
	return []api.Sign{n(3), d(), tied(), last(), n(9), badTied(), bothTied()}
}

// compareLists holds Check, Timed, Ligatures and Count against the model.
func compareLists(t *testing.T, p api.Part) {
	want := judged(p.Signs)
	if got := checked(p); got != want {
		t.Errorf("Check(%v): %v, not %v", p, got, want)
	}
	var timed, firsts, lasts, counts []int
	if want.e == api.OK {
		for i, s := range p.Signs {
			if s.Kind == 1 || s.Kind == 2 || s.Kind == 4 {
				timed = append(timed, i)
			}
		}
		for _, x := range pieces(p.Signs) {
			firsts, lasts = append(firsts, x[0]), append(lasts, x[1]-1)
		}
		for kind := 1; kind <= 12; kind++ {
			counts = append(counts, len(slices.DeleteFunc(slices.Clone(p.Signs), func(s api.Sign) bool { return s.Kind != kind })))
		}
	}
	if l, e := sign.Timed(p); e != want.e || !slices.Equal(l, timed) {
		t.Errorf("Timed(%v): %v %v, not %v %v", p, l, e, timed, want.e)
	}
	if l, m, e := sign.Ligatures(p); e != want.e || !slices.Equal(l, firsts) || !slices.Equal(m, lasts) {
		t.Errorf("Ligatures(%v): %v %v %v, not %v %v %v", p, l, m, e, firsts, lasts, want.e)
	}
	if l, e := sign.Count(p); e != want.e || !slices.Equal(l, counts) {
		t.Errorf("Count(%v): %v %v, not %v %v", p, l, e, counts, want.e)
	}
}

// P8.2, P8.3: all parts of up to five signs of the alphabet, and of up to eight of some of them.
func TestShortParts(t *testing.T) {
	for _, l := range tuples(5, alphabet()...) {
		compareLists(t, part(l...))
	}
	for _, l := range tuples(8, d(), tied(), last()) {
		compareLists(t, part(l...))
	}
}

// P8.2, P8.3: all pairs and triples of signs of all kinds.
func TestAllKinds(t *testing.T) {
	var all []api.Sign
	for kind := 1; kind <= 12; kind++ {
		all = append(all, someSigns(kind)[0])
	}
	all = append(all, last(), badMens(), api.Sign{Kind: 13}, api.Sign{})
	for _, l := range tuples(3, all...) {
		compareLists(t, part(l...))
	}
}

// P8.2: the document's examples, and the edge cases of ligatures.
func TestCheckExamples(t *testing.T) {
	dots, mess := slices.Repeat([]api.Sign{d()}, 401), slices.Repeat([]api.Sign{n(9)}, 401)
	whole := append(slices.Repeat([]api.Sign{tied()}, 399), last())
	for _, c := range []struct {
		name  string
		signs []api.Sign
		want  fault
	}{
		{"a", []api.Sign{tied(), last(), d()}, fault{}}, {"a", []api.Sign{tied(), d(), last()}, fault{api.ErrForm, 0}}, {"a", []api.Sign{n(3), last()}, fault{api.ErrForm, 1}}, {"a", []api.Sign{tied()}, fault{api.ErrForm, 0}},
		{"A", nil, fault{api.ErrName, 0}}, {"a", dots, fault{api.ErrFull, 0}}, {"a", dots[:400], fault{}}, {"a", nil, fault{}}, {"a", []api.Sign{}, fault{}},
		{"a", []api.Sign{last()}, fault{api.ErrForm, 0}}, {"a", []api.Sign{tied(), last()}, fault{}}, {"a", []api.Sign{tied(), last(), tied(), last()}, fault{}}, {"a", []api.Sign{tied(), last(), last()}, fault{api.ErrForm, 2}},
		{"a", []api.Sign{tied(), tied(), last()}, fault{}}, {"a", []api.Sign{tied(), tied()}, fault{api.ErrForm, 1}}, {"a", []api.Sign{tied(), tied(), r(3), last()}, fault{api.ErrForm, 1}}, {"a", []api.Sign{tied(), last(), tied()}, fault{api.ErrForm, 2}},
		{"a", []api.Sign{tied(), bothTied()}, fault{api.ErrForm, 1}}, {"a", []api.Sign{bothTied(), last()}, fault{api.ErrForm, 0}}, {"a", []api.Sign{{Kind: api.Tied, Oblique: true}, last()}, fault{}},
		// The next sign is of the Kind Tied, whatever else is wrong with it.
		{"a", []api.Sign{tied(), badTied()}, fault{api.ErrRange, 1}}, {"a", []api.Sign{tied(), n(9)}, fault{api.ErrForm, 0}}, {"a", []api.Sign{badTied(), n(9)}, fault{api.ErrRange, 0}}, {"a", []api.Sign{last(), n(9)}, fault{api.ErrForm, 0}},
		{"a", []api.Sign{n(3), badMens(), n(9), tied()}, fault{api.ErrMens, 1}}, {"a", []api.Sign{n(3), n(9), badMens()}, fault{api.ErrRange, 1}}, {"a", []api.Sign{d(), {}, n(9)}, fault{api.ErrKind, 1}},
		{"A", mess, fault{api.ErrName, 0}}, {"A", mess[:1], fault{api.ErrName, 0}}, {"a", mess, fault{api.ErrFull, 0}}, {"a", mess[:400], fault{api.ErrRange, 0}}, {"a", append(slices.Clone(dots[:399]), n(9)), fault{api.ErrRange, 399}}, {"a", append(slices.Clone(dots), n(9)), fault{api.ErrFull, 0}},
		{"a", whole, fault{}}, {"a", whole[:399], fault{api.ErrForm, 398}}, {"a", append(slices.Clone(dots[:398]), tied(), last()), fault{}}, {"a", append(slices.Clone(dots[:399]), tied(), last()), fault{api.ErrFull, 0}}, {"a", append(slices.Clone(dots[:399]), tied()), fault{api.ErrForm, 399}},
	} {
		p := api.Part{Name: c.name, Signs: c.signs}
		if got := checked(p); got != c.want {
			t.Errorf("Check(%s, %d signs %v): %v, not %v", c.name, len(c.signs), c.signs[:min(len(c.signs), 4)], got, c.want)
		}
		checkError(t, p, c.want.e)
		if c.name == "a" {
			compareLists(t, p)
		}
	}
}

// checkError sees whether the lists of a part have this error, and nothing else if it is one.
func checkError(t *testing.T, p api.Part, want api.Errno) {
	a, e := sign.Timed(p)
	b, c, f := sign.Ligatures(p)
	counts, g := sign.Count(p)
	if e != want || f != want || g != want || want != api.OK && len(a)+len(b)+len(c)+len(counts) > 0 {
		t.Errorf("%q with %d signs: %v %v, %v %v %v, %v %v, not %v", p.Name, len(p.Signs), a, e, b, c, f, counts, g, want)
	}
}

// P8.2: names, before everything else.
func TestNames(t *testing.T) {
	for _, name := range []string{"a", "z", "a1", "a-", "cantus-1", "z09-", strings.Repeat("a", 20), "part"} {
		if got := checked(api.Part{Name: name, Signs: []api.Sign{n(3)}}); got != (fault{}) {
			t.Errorf("Check of %q: %v", name, got)
		}
	}
	for _, name := range []string{"", "A", "1", "-", "1a", "-a", "aB", "a b", " a", "a ", "a_", "a\n", "\x00", "a\x00", "é", "aé", "\xff", strings.Repeat("a", 21), strings.Repeat("a", 70000)} {
		for _, l := range [][]api.Sign{nil, {n(3)}, {n(9)}, {tied()}, {{}}, slices.Repeat([]api.Sign{d()}, 401)} {
			p := api.Part{Name: name, Signs: l}
			if got := checked(p); got != (fault{api.ErrName, 0}) {
				t.Errorf("Check of %q: %v", name, got)
			}
			checkError(t, p, api.ErrName)
		}
	}
}

// P8.2: each fault at each place of long parts.
func TestFaultsAnywhere(t *testing.T) {
	for _, size := range []int{1, 2, 7, 399, 400} {
		l := slices.Repeat([]api.Sign{n(4)}, size)
		for i := range l {
			for _, s := range []api.Sign{n(9), tied(), last(), badTied(), bothTied(), badMens(), {}, {Kind: api.Dot, Value: 1}} {
				l[i] = s
				want := fault{verdict(s), i}
				if want.e == api.OK {
					want.e = api.ErrForm
				}
				if got := checked(part(l...)); got != want {
					t.Errorf("%+v at %d of %d notes: %v, not %v", s, i, size, got, want)
				}
			}
			l[i] = n(4)
		}
	}
}

// P8.2, P8.3: any int in each leaf of a sign in a part.
func TestAnyIntInPart(t *testing.T) {
	for _, l := range leaves() {
		for _, k := range anyInts() {
			signs := []api.Sign{n(3), d(), of(2, 2, 3, 2), tied(), last(), {Kind: api.Proportion, N: 3, D: 2}, {Kind: api.ClefSign, Clef: api.Clef{Line: 3}}, {Kind: api.Key, N: 1}, {Kind: api.Open}, r(4), {Kind: api.Close, N: 2}, {Kind: api.Turn}, {Kind: api.Signum}}
			for i := range signs {
				was := signs[i]
				l.set(&signs[i], k)
				compareLists(t, part(signs...))
				signs[i] = was
			}
		}
	}
}

// P8.3: the document's example.
func TestListsExample(t *testing.T) {
	p := part(n(3), d(), tied(), tied(), last(), r(4), tied(), last())
	timed, e := sign.Timed(p)
	firsts, lasts, f := sign.Ligatures(p)
	counts, g := sign.Count(p)
	if !slices.Equal(timed, []int{0, 2, 3, 4, 5, 6, 7}) || !slices.Equal(firsts, []int{2, 6}) || !slices.Equal(lasts, []int{4, 7}) || !slices.Equal(counts, []int{1, 1, 1, 5, 0, 0, 0, 0, 0, 0, 0, 0}) || e != api.OK || f != api.OK || g != api.OK {
		t.Errorf("%v %v, %v %v %v, %v %v", timed, e, firsts, lasts, f, counts, g)
	}
	for _, p := range []api.Part{part(), part([]api.Sign{}...)} {
		timed, _ := sign.Timed(p)
		firsts, lasts, _ := sign.Ligatures(p)
		counts, e := sign.Count(p)
		if len(timed)+len(firsts)+len(lasts) > 0 || e != api.OK || !slices.Equal(counts, make([]int, 12)) {
			t.Errorf("of no signs: %v, %v %v, %v %v", timed, firsts, lasts, counts, e)
		}
	}
}

// isSame sees whether Same is what it should be, both ways.
func isSame(t *testing.T, a, b api.Part, want bool) {
	if sign.Same(a, b) != want || sign.Same(b, a) != want {
		t.Errorf("Same(%v, %v): %v %v, not %v", a, b, sign.Same(a, b), sign.Same(b, a), want)
	}
}

// P8.4: Same of parts that differ in one leaf or the kind of one sign, valid or not.
func TestSameSigns(t *testing.T) {
	l := []api.Sign{n(3), d(), tied(), last(), badTied(), {}, of(2, 2, 3, 2), {Kind: 13, N: 4}}
	for i := range l {
		for _, k := range anyInts() {
			m := slices.Clone(l)
			m[i].Kind = k
			isSame(t, part(l...), part(m...), k == l[i].Kind)
			for _, f := range leaves() {
				m[i] = l[i]
				f.set(&m[i], k)
				isSame(t, part(l...), part(m...), f.get(m[i]) == f.get(l[i]))
			}
		}
	}
}

// P8.4: Same of parts that differ in the name, the number or the order of signs; equal parts, valid or not.
func TestSameParts(t *testing.T) {
	many := slices.Repeat([]api.Sign{n(9)}, 500)
	for _, l := range [][]api.Sign{nil, {n(3)}, {tied()}, {{}}, {n(3), d()}, many} {
		for _, name := range []string{"a", "", "A", "\x00", strings.Repeat("b", 300)} {
			p := api.Part{Name: name, Signs: l}
			isSame(t, p, p, true)
			isSame(t, p, api.Part{Name: strings.Clone(name), Signs: slices.Clone(l)}, true)
			isSame(t, p, api.Part{Name: name, Signs: append(slices.Clone(l), api.Sign{})}, false)
			isSame(t, p, api.Part{Name: name + "a", Signs: l}, false)
			isSame(t, p, api.Part{Name: name + "\x00", Signs: l}, false)
			isSame(t, p, api.Part{Name: name}, len(l) == 0)
		}
	}
	isSame(t, api.Part{}, api.Part{Signs: []api.Sign{}}, true)
	isSame(t, part(n(3), d()), part(d(), n(3)), false)
	isSame(t, part(n(3), d()), part(n(3)), false)
	isSame(t, part(many...), part(append(slices.Clone(many[:499]), n(8))...), false)
	for _, a := range tuples(3, alphabet()...) {
		for _, b := range tuples(2, alphabet()...) {
			isSame(t, part(a...), part(b...), slices.Equal(a, b))
		}
	}
}

// P8.2 to P8.4: no part is changed, and results share no memory.
func TestPartsKept(t *testing.T) {
	for _, l := range [][]api.Sign{nil, {n(3)}, {n(3), tied(), last(), r(4), tied(), tied(), last()}, {tied(), last(), n(9)}, {tied(), d(), last()}, {{Kind: api.Dot, Value: 3}}} {
		p := guarded("a", l)
		sign.Check(p)
		sign.Same(p, p)
		a, _ := sign.Timed(p)
		b, c, _ := sign.Ligatures(p)
		counts, _ := sign.Count(p)
		was := [][]int{slices.Clone(a), slices.Clone(b), slices.Clone(c), slices.Clone(counts)}
		for k, list := range [][]int{a, b, c, counts} {
			list = list[:cap(list)]
			for i := range list {
				list[i] = 1000 + k
			}
		}
		for k, list := range [][]int{b, c} {
			if slices.ContainsFunc(list, func(n int) bool { return n != 1001+k }) {
				t.Errorf("the lists of Ligatures(%v) share memory", l)
			}
		}
		a, _ = sign.Timed(p)
		b, c, _ = sign.Ligatures(p)
		counts, _ = sign.Count(p)
		if !slices.EqualFunc(was, [][]int{a, b, c, counts}, slices.Equal) {
			t.Errorf("%v: %v, then %v %v %v %v", l, was, a, b, c, counts)
		}
		if p.Name != "a" || !isGuarded(p, l) {
			t.Errorf("%v became %v", l, p)
		}
	}
}
