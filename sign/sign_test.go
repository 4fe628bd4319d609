package sign_test

import (
	"math"
	"slices"
	"testing"

	"tactus/api"
	"tactus/mens"
	"tactus/sign"
)

// compare holds One against the model.
func compare(t *testing.T, s api.Sign) {
	if e, want := sign.One(s), verdict(s); e != want {
		t.Errorf("One(%+v): %v, not %v", s, e, want)
	}
}

// P8.1: every valid sign of each kind, and how many there are.
func TestEverySign(t *testing.T) {
	want := []int{0, 8 * 17 * 4 * 2, 8, 1, 17 * 4 * 2 * 4 * 3, 16 * 2, 100 * 100, 15, 3, 1, 3, 1, 1}
	for kind := 1; kind <= 12; kind++ {
		valid := 0
		for _, s := range everySign(kind) {
			switch e := sign.One(s); {
			case e == api.OK:
				valid++
			case e != api.ErrForm || !s.Oblique || !s.Last:
				t.Errorf("One(%+v): %v", s, e)
			}
		}
		if valid != want[kind] {
			t.Errorf("%d valid signs of the kind %d, not %d", valid, kind, want[kind])
		}
	}
}

// P8.1: any int in each leaf of signs of each kind: the error is ErrForm if the kind does not use it.
func TestAnyLeaf(t *testing.T) {
	for kind := 1; kind <= 12; kind++ {
		may := allowed(kind)
		for _, s := range someSigns(kind) {
			for _, l := range leaves() {
				for _, k := range anyInts() {
					x := s
					l.set(&x, k)
					compare(t, x)
					if _, uses := may[l.name]; !uses && (k == 0) != (sign.One(x) == api.OK) {
						t.Errorf("%s of %+v: %v", l.name, x, sign.One(x))
					}
				}
			}
		}
	}
}

// P8.1: the ends of what is allowed, and one beyond them, written out.
func TestEnds(t *testing.T) {
	note, noteTied := n(3), tied()
	for _, c := range []struct {
		leaf      string
		s         api.Sign
		low, high int
		beyond    api.Errno
	}{
		{"Value", note, 1, 8, api.ErrRange}, {"Value", r(3), 1, 8, api.ErrRange}, {"Place", note, -4, 12, api.ErrRange}, {"Place", noteTied, -4, 12, api.ErrRange},
		{"Acc", note, -1, 2, api.ErrRange}, {"Acc", noteTied, -1, 2, api.ErrRange}, {"Stem", noteTied, 0, 3, api.ErrRange}, {"Color", note, 0, 1, api.OK}, {"Color", noteTied, 0, 1, api.OK},
		{"Max", of(2, 2, 2, 2), 2, 3, api.ErrMens}, {"Mod", of(2, 2, 2, 2), 2, 3, api.ErrMens}, {"Tem", of(3, 3, 3, 3), 2, 3, api.ErrMens}, {"Pro", of(3, 3, 3, 3), 2, 3, api.ErrMens}, {"Stroke", of(3, 2, 3, 2), 0, 1, api.OK},
		{"N", api.Sign{Kind: api.Proportion, N: 3, D: 2}, 1, 100, api.ErrRange}, {"D", api.Sign{Kind: api.Proportion, N: 3, D: 2}, 1, 100, api.ErrRange},
		{"Step", api.Sign{Kind: api.ClefSign, Clef: api.Clef{Line: 3}}, 3, 4, api.ErrRange}, {"Step", api.Sign{Kind: api.ClefSign, Clef: api.Clef{Line: 3}}, 0, 0, api.ErrRange}, {"Line", api.Sign{Kind: api.ClefSign, Clef: api.Clef{Step: 3, Line: 3}}, 1, 5, api.ErrRange},
		{"N", api.Sign{Kind: api.Key}, 0, 2, api.ErrRange}, {"N", api.Sign{Kind: api.Close, N: 3}, 2, 4, api.ErrRange},
	} {
		i := slices.IndexFunc(leaves(), func(l leaf) bool { return l.name == c.leaf })
		for k := c.low - 1; k <= c.high+1; k++ {
			want := api.OK
			if k < c.low || k > c.high {
				want = c.beyond
			}
			x := c.s
			leaves()[i].set(&x, k)
			if e := sign.One(x); e != want {
				t.Errorf("One(%+v): %v, not %v", x, e, want)
			}
		}
	}
}

// of is a sign with a mensuration.
func of(most, mod, tem, pro int) api.Sign {
	return api.Sign{Kind: api.Mensural, Mens: api.Mens{Max: most, Mod: mod, Tem: tem, Pro: pro}}
}

// P8.1, P8.3: there are no other kinds, whatever else the sign has.
func TestKinds(t *testing.T) {
	classes := []int{0, 1, 1, 2, 1, 3, 3, 4, 4, 3, 3, 4, 4}
	for _, k := range append(anyInts(), 13, 14, -1, 1<<8+3, 1<<16+3, 1<<32+3) {
		class, e := sign.Class(k)
		if k >= 1 && k <= 12 {
			if class != classes[k] || e != api.OK {
				t.Errorf("Class(%d): %d %v", k, class, e)
			}
			continue
		}
		if class != 0 || e != api.ErrKind {
			t.Errorf("Class(%d): %d %v", k, class, e)
		}
		for _, s := range []api.Sign{{}, n(3), n(9), bothTied(), badMens(), {Value: 3, Place: 13, Stem: 4, Oblique: true, Last: true, N: 101, Clef: api.Clef{Step: 9}}} {
			s.Kind = k
			if e := sign.One(s); e != api.ErrKind {
				t.Errorf("One(%+v): %v", s, e)
			}
			if e, at := sign.Check(part(d(), s)); e != api.ErrKind || at != 1 {
				t.Errorf("Check of a dot and %+v: %v %d", s, e, at)
			}
		}
	}
}

// P8.1: two faults together, in all pairs of leaves of signs of each kind.
func TestTwoFaults(t *testing.T) {
	for kind := 0; kind <= 13; kind++ {
		some := []api.Sign{{Kind: kind}}
		if kind > 0 && kind < 13 {
			some = someSigns(kind)
		}
		for _, s := range some {
			for _, a := range leaves() {
				for _, b := range leaves() {
					for _, k := range [][2]int{{1, 1}, {-2, 13}, {101, -5}, {4, 3}, {0, 9}, {math.MaxInt, math.MinInt}} {
						x := s
						a.set(&x, k[0])
						b.set(&x, k[1])
						compare(t, x)
					}
				}
			}
		}
	}
}

// P8.1: the order of the errors, and the document's examples.
func TestOrder(t *testing.T) {
	mens4 := api.Mens{Max: 2, Mod: 2, Tem: 3, Pro: 4}
	for _, c := range []struct {
		s    api.Sign
		want api.Errno
	}{
		{n(3), api.OK}, {n(9), api.ErrRange}, {n(0), api.ErrRange}, {api.Sign{Kind: api.Note, Value: 3, Stem: 1}, api.ErrForm}, {api.Sign{Kind: 13}, api.ErrKind}, {api.Sign{Kind: api.Close, N: 1}, api.ErrRange},
		{api.Sign{Kind: api.Mensural, Mens: mens4}, api.ErrMens}, {api.Sign{Kind: api.Rest, Value: 3, Place: 1}, api.ErrForm}, {bothTied(), api.ErrForm},
		{api.Sign{}, api.ErrKind}, {api.Sign{Kind: -1, Value: 9, Stem: 1}, api.ErrKind}, {api.Sign{Kind: 13, Mens: mens4}, api.ErrKind},
		{api.Sign{Kind: api.Note, Value: 9, Stem: 1}, api.ErrForm}, {api.Sign{Kind: api.Note, Value: 9, Mens: mens4}, api.ErrForm}, {api.Sign{Kind: api.Note, Value: 3, Last: true}, api.ErrForm}, {api.Sign{Kind: api.Note, Value: 3, Oblique: true, Last: true}, api.ErrForm},
		{api.Sign{Kind: api.Mensural, Mens: mens4, Stroke: true}, api.ErrMens}, {api.Sign{Kind: api.Mensural, Mens: mens4, N: 1}, api.ErrForm}, {badMens(), api.ErrMens},
		{api.Sign{Kind: api.Tied, Stem: 4, Oblique: true, Last: true}, api.ErrRange}, {api.Sign{Kind: api.Tied, Stem: 4, Value: 3}, api.ErrForm}, {api.Sign{Kind: api.Tied, Place: 13, Oblique: true, Last: true}, api.ErrRange}, {api.Sign{Kind: api.Tied, Oblique: true}, api.OK}, {last(), api.OK},
		{api.Sign{Kind: api.ClefSign}, api.ErrRange}, {api.Sign{Kind: api.ClefSign, Clef: api.Clef{Step: 1, Line: 3}}, api.ErrRange}, {api.Sign{Kind: api.ClefSign, Clef: api.Clef{Step: 1, Line: 3}, N: 1}, api.ErrForm},
		{api.Sign{Kind: api.Proportion}, api.ErrRange}, {api.Sign{Kind: api.Proportion, N: 1}, api.ErrRange}, {api.Sign{Kind: api.Proportion, D: 1}, api.ErrRange}, {api.Sign{Kind: api.Key, D: 1}, api.ErrForm}, {api.Sign{Kind: api.Close, N: 5, D: 1}, api.ErrForm}, {api.Sign{Kind: api.Open, N: 2}, api.ErrForm},
	} {
		if e := sign.One(c.s); e != c.want || e != verdict(c.s) {
			t.Errorf("One(%+v): %v, not %v %v", c.s, e, c.want, verdict(c.s))
		}
	}
}

// full is the full duration of a value under a valid mensuration.
func full(m api.Mens, v int) api.Time {
	switch v {
	case 1:
		return api.Time{N: m.Max * m.Mod * m.Tem * m.Pro, D: 1}
	case 2:
		return api.Time{N: m.Mod * m.Tem * m.Pro, D: 1}
	case 3:
		return api.Time{N: m.Tem * m.Pro, D: 1}
	case 4:
		return api.Time{N: m.Pro, D: 1}
	}
	return api.Time{N: 1, D: 1 << (v - 5)}
}

// P8.4: Plain under all mensurations, of all kinds and values.
func TestPlain(t *testing.T) {
	for number := range 16 {
		m, _ := mens.Of(number)
		for v := 1; v <= 8; v++ {
			for _, s := range []api.Sign{n(v), r(v), {Kind: api.Note, Value: v, Place: 12, Acc: api.Natural, Color: true}} {
				if x, e := sign.Plain(m, s); x != full(m, v) || e != api.OK {
					t.Errorf("Plain(%v, %+v): %v %v, not %v", m, s, x, e, full(m, v))
				}
			}
		}
		for kind := 3; kind <= 12; kind++ {
			for _, s := range someSigns(kind) {
				if x, e := sign.Plain(m, s); e != api.ErrKind || x != (api.Time{}) {
					t.Errorf("Plain(%v, %+v): %v %v", m, s, x, e)
				}
			}
		}
	}
}

// P8.4: the document's examples.
func TestPlainExamples(t *testing.T) {
	circle := api.Mens{Max: 2, Mod: 2, Tem: 3, Pro: 2}
	for _, c := range []struct {
		s    api.Sign
		want api.Time
		e    api.Errno
	}{
		{n(3), api.Time{N: 6, D: 1}, api.OK}, {r(4), api.Time{N: 2, D: 1}, api.OK}, {d(), api.Time{}, api.ErrKind}, {n(6), api.Time{N: 1, D: 2}, api.OK}, {r(8), api.Time{N: 1, D: 8}, api.OK},
	} {
		if x, e := sign.Plain(circle, c.s); x != c.want || e != c.e {
			t.Errorf("Plain(O, %+v): %v %v, not %v %v", c.s, x, e, c.want, c.e)
		}
	}
}

// P8.4: invalid mensurations before invalid signs before other kinds; any int in each.
func TestPlainErrors(t *testing.T) {
	good := api.Mens{Max: 2, Mod: 3, Tem: 2, Pro: 3}
	bad := []api.Mens{{}, {Max: 2, Mod: 2, Tem: 3}, {Max: 4, Mod: 2, Tem: 2, Pro: 2}, {Max: 2, Mod: -2, Tem: 2, Pro: 2}, {Max: 2, Mod: 2, Tem: math.MaxInt, Pro: math.MinInt}}
	for _, k := range anyInts() {
		if k != 2 && k != 3 {
			bad = append(bad, api.Mens{Max: k, Mod: 3, Tem: 2, Pro: 3}, api.Mens{Max: 2, Mod: k, Tem: 2, Pro: 3}, api.Mens{Max: 2, Mod: 3, Tem: k, Pro: 3}, api.Mens{Max: 2, Mod: 3, Tem: 2, Pro: k})
		}
	}
	for _, s := range []api.Sign{n(3), r(3), n(9), d(), tied(), bothTied(), badTied(), badMens(), {}, {Kind: 13}, {Kind: api.Note, Value: 3, Stem: 1}, {Kind: api.Dot, Value: 3}} {
		for _, m := range bad {
			if x, e := sign.Plain(m, s); x != (api.Time{}) || e != api.ErrMens {
				t.Errorf("Plain(%v, %+v): %v %v", m, s, x, e)
			}
		}
		want := verdict(s)
		if want == api.OK && s.Kind > 2 {
			want = api.ErrKind
		}
		if x, e := sign.Plain(good, s); e != want || (e == api.OK) == (x == api.Time{}) {
			t.Errorf("Plain(%v, %+v): %v %v, not %v", good, s, x, e, want)
		}
	}
	for _, l := range leaves() {
		for _, k := range anyInts() {
			s := n(3)
			l.set(&s, k)
			if x, e := sign.Plain(good, s); e != verdict(s) || (e == api.OK) == (x == api.Time{}) {
				t.Errorf("Plain(%v, %+v): %v %v", good, s, x, e)
			}
		}
	}
}
