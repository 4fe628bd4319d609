package gamut_test

import (
	"slices"
	"testing"

	"tactus/api"
	"tactus/gamut"
	"tactus/pitch"
)

// mutations is the number of mutations of the best solmization.
func mutations(t *testing.T, l []api.Pitch) int {
	_, n, e := gamut.Solmize(l)
	if e != api.OK {
		t.Fatalf("Solmize(%v): %v", l, e)
	}
	return n
}

// P4.5: Pitch and Ways are inverse; a pitch has at most three ways.
func TestInverse(t *testing.T) {
	count := 0
	for _, p := range allValid() {
		l, e := gamut.Ways(p)
		if len(l) > 3 || e != api.OK {
			t.Errorf("Ways(%v): %v %v", p, l, e)
		}
		count += len(l)
		for hex := 1; hex <= 7; hex++ {
			for syl := 1; syl <= 6; syl++ {
				q, e := gamut.Pitch(way(hex, syl))
				if e != api.OK || (q == p) != slices.Contains(l, way(hex, syl)) {
					t.Errorf("%v has the ways %v, but the pitch of %d %d is %v %v", p, l, hex, syl, q, e)
				}
			}
		}
	}
	if count != 42 {
		t.Errorf("%d ways", count)
	}
}

// P4.6: no solmization has fewer mutations, and what Solmize returns has as many as it says.
func TestFewest(t *testing.T) {
	ways := sung()
	check := func(l []api.Pitch) {
		got, n, e := gamut.Solmize(l)
		at, _, f := gamut.Mutations(got)
		if e != api.OK || f != api.OK || len(at) != n || len(got) != len(l) {
			t.Fatalf("Solmize(%v): %v %d %v, with mutations at %v %v", l, got, n, e, at, f)
		}
		for _, x := range solmizations(ways, l) {
			if other, _, e := gamut.Mutations(x); e != api.OK || len(other) < n {
				t.Fatalf("Solmize(%v): %v %d, but %v: %v %v", l, got, n, x, other, e)
			}
		}
	}
	short(allSung(), 3, check)
	for _, l := range longer(100, 7) {
		check(l)
	}
}

// P4.7: backwards, a melody has as many mutations.
func TestReverse(t *testing.T) {
	check := func(l []api.Pitch) {
		back := slices.Clone(l)
		slices.Reverse(back)
		if n, m := mutations(t, l), mutations(t, back); n != m {
			t.Fatalf("%v: %d mutations, backwards %d", l, n, m)
		}
	}
	short(allSung(), 3, check)
	for _, length := range []int{8, 40, 400} {
		for _, l := range longer(100, length) {
			check(l)
		}
	}
}

// P4.7: one melody after the other has at most one mutation more than both.
func TestConcatenated(t *testing.T) {
	seen := map[int]int{}
	check := func(l []api.Pitch) {
		whole := mutations(t, l)
		for i := 0; i <= len(l); i++ {
			sum := mutations(t, l[:i]) + mutations(t, l[i:])
			if whole < sum || whole > sum+1 {
				t.Fatalf("%v and %v: %d mutations, but %d in both", l[:i], l[i:], whole, sum)
			}
			seen[whole-sum]++
		}
	}
	short(allSung(), 3, check)
	for _, length := range []int{8, 40} {
		for _, l := range longer(100, length) {
			check(l)
		}
	}
	if seen[0] == 0 || seen[1] == 0 {
		t.Errorf("mutations added: %v", seen)
	}
}

// P4.8: an octave higher, a melody in the hexachords 1 to 4 has at most as many mutations.
func TestOctaveHigher(t *testing.T) {
	low := 0
	check := func(l []api.Pitch) {
		best, n, e := gamut.Solmize(l)
		if e != api.OK || slices.ContainsFunc(best, func(w api.Syllable) bool { return w.Hex > 4 }) {
			return
		}
		low++
		var high []api.Pitch
		for _, p := range l {
			q, e := pitch.Move(p, 7)
			if e != api.OK {
				t.Fatal(p, e)
			}
			high = append(high, q)
		}
		if m := mutations(t, high); m > n {
			t.Fatalf("%v: %d mutations, but %d an octave higher", l, n, m)
		}
	}
	short(allSung(), 3, check)
	for _, l := range longer(2000, 9) {
		check(l)
	}
	if low < 1000 {
		t.Errorf("only %d melodies are low", low)
	}
}
