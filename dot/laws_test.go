package dot_test

import (
	"slices"
	"testing"

	"tactus/api"
	"tactus/dot"
)

// P9.5: each dot has one or two meanings, ascending; the meaning by the rule is one of them.
func TestOneOrTwoMeanings(t *testing.T) {
	ones, twos := 0, 0
	validRuns(func(m api.Mens, l []api.Sign) {
		all, e := dot.Meanings(m, l)
		list, f := dot.Rule(m, l)
		if e != api.OK || f != api.OK || len(all) != len(dots(l)) || len(list) != len(all) {
			t.Fatal(m, l, all, e, list, f)
		}
		for i, of := range all {
			switch {
			case len(of) == 1:
				ones++
			case len(of) == 2 && of[0] < of[1]:
				twos++
			default:
				t.Errorf("%v under %v: %v", l, m, all)
			}
			if !slices.Contains(of, list[i]) {
				t.Errorf("%v under %v: %v is not of %v", l, m, list, all)
			}
		}
	})
	if ones < 1000 || twos < 1000 {
		t.Errorf("only %d dots with one meaning, %d with two", ones, twos)
	}
}

// P9.6: the lists of all numbers are in lexicographic order and differ; the rule's list is among them.
func TestListsDiffer(t *testing.T) {
	check := func(m api.Mens, l []api.Sign) {
		n, e := dot.Count(m, l)
		rule, f := dot.Rule(m, l)
		if e != api.OK || f != api.OK {
			t.Fatal(m, l, e, f)
		}
		var all [][]int
		for k := range n {
			list, e := dot.Of(m, l, k)
			if e != api.OK || k > 0 && slices.Compare(all[k-1], list) >= 0 {
				t.Errorf("%v under %v: %v after %v, %v", l, m, list, all, e)
			}
			all = append(all, list)
		}
		if !slices.ContainsFunc(all, func(list []int) bool { return slices.Equal(list, rule) }) {
			t.Errorf("%v under %v: %v is not of %v", l, m, rule, all)
		}
	}
	validRuns(check)
	for _, text := range []string{"S . S . S . S . S . S .", "S . M . S . M . M . Q . *S . X", "M . M . M . rS M . Q . Q . B"} {
		check(made(2, 2, 3, 2), run(text))
	}
}

// P9.7: under the mensuration without perfect values all dots after notes add, and no dot may follow a rest.
func TestNoPerfectValues(t *testing.T) {
	m := made(2, 2, 2, 2)
	dotted := 0
	for _, l := range shortRuns() {
		afterRest := slices.ContainsFunc(dots(l), func(i int) bool { return i > 0 && l[i-1].Kind == api.Rest })
		all, e := dot.Meanings(m, l)
		if afterRest {
			if e != api.ErrDot {
				t.Errorf("%v: %v %v", l, all, e)
			}
			continue
		}
		if e != api.OK {
			continue
		}
		dotted += len(all)
		list, e := dot.Rule(m, l)
		cuts, adds, f := dot.Marks(m, l, list)
		if e != api.OK || f != api.OK || !isEqual(all, slices.Repeat([][]int{{0}}, len(all))) || !slices.Equal(list, make([]int, len(all))) || !slices.Equal(cuts, make([]int, len(l)-len(all))) {
			t.Errorf("%v: %v, %v, %v", l, all, list, cuts)
		}
		if n := len(slices.DeleteFunc(slices.Clone(adds), func(add bool) bool { return !add })); n != len(all) {
			t.Errorf("%v: %d dots add", l, n)
		}
	}
	if dotted < 1000 {
		t.Errorf("only %d dots", dotted)
	}
}

// P9.8: the meanings of a dot are those that it has after its note or rest alone.
func TestMeaningsAlone(t *testing.T) {
	validRuns(func(m api.Mens, l []api.Sign) {
		all, e := dot.Meanings(m, l)
		if e != api.OK {
			t.Fatal(m, l, e)
		}
		for k, i := range dots(l) {
			alone, e := dot.Meanings(m, l[i-1:i+1])
			if e != api.OK || len(alone) != 1 || !slices.Equal(alone[0], all[k]) {
				t.Errorf("%v under %v: %v, alone %v %v", l, m, all, alone, e)
			}
		}
	})
}

// P9.8: of the mensuration only the perfect values from the note on matter.
func TestMeaningsByMens(t *testing.T) {
	for _, m := range allMens() {
		for v := 1; v <= 8; v++ {
			for _, s := range []api.Sign{note(v), colored(v), rest(v)} {
				l := []api.Sign{s, point()}
				all, e := dot.Meanings(m, l)
				for smaller := v + 1; smaller <= 4; smaller++ {
					x := m
					*[]*int{&x.Max, &x.Mod, &x.Tem, &x.Pro}[smaller-1] ^= 1
					if again, f := dot.Meanings(x, l); f != e || !isEqual(again, all) {
						t.Errorf("%v: %v %v under %v, %v %v under %v", l, all, e, m, again, f, x)
					}
				}
			}
		}
	}
}
