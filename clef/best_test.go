package clef_test

import (
	"math"
	"slices"
	"testing"

	"tactus/api"
	"tactus/clef"
)

// needed counts the ledger lines of pitches under a clef, if all of them have places.
func (k known) needed(l []api.Pitch) (int, bool) {
	sum := 0
	for _, p := range l {
		place, has := k.place(p)
		if !has {
			return 0, false
		}
		sum += ledgers()[place+4]
	}
	return sum, true
}

// bestFor goes through all clefs, the last one first, so that the first one of several equal ones remains.
func bestFor(l []api.Pitch) (api.Clef, api.Errno) {
	best, e, least := api.Clef{}, api.ErrNone, 0
	for _, k := range slices.Backward(allKnown()) {
		if n, has := k.needed(l); has && (e != api.OK || n <= least) {
			best, e, least = k.clef, api.OK, n
		}
	}
	return best, e
}

// plain are the valid pitches without alteration, by ascending numbers.
func plain() []api.Pitch {
	var l []api.Pitch
	for _, p := range allValid() {
		if p.Alter == 0 {
			l = append(l, p)
		}
	}
	return l
}

// checkBest compares Best with bestFor.
func checkBest(t *testing.T, key int, l ...api.Pitch) {
	want, wantErr := bestFor(l)
	if c, e := clef.Best(key, l); c != want || e != wantErr {
		t.Errorf("Best(%d, %v): %v %v, not %v %v", key, l, c, e, want, wantErr)
	}
}

// P6.5: no pitch, and each pitch alone, in all keys.
func TestBestOne(t *testing.T) {
	for key := range 3 {
		checkBest(t, key)
		for _, p := range allValid() {
			checkBest(t, key, p)
			checkBest(t, key, p, p, p)
		}
	}
}

// P6.5: each two pitches.
func TestBestTwo(t *testing.T) {
	for i, p := range plain() {
		for j, q := range plain() {
			q.Alter = (i+j)%3 - 1
			checkBest(t, (i+j)%3, p, q)
		}
	}
}

// P6.5: each three pitches that one clef or another has.
func TestBestThree(t *testing.T) {
	l := plain()[10:48]
	for i, p := range l {
		for j, q := range l[i:] {
			for _, r := range l[i+j:] {
				checkBest(t, 1, q, p, r)
			}
		}
	}
}

// P6.5: pitches beside which a clef with fewer ledger lines for most of them is not the best one.
func TestBestSums(t *testing.T) {
	low, high := made(2, 2, 0), made(5, 4, 0)
	for n := range 8 {
		for m := range 8 {
			checkBest(t, 0, slices.Concat(slices.Repeat([]api.Pitch{low}, n), slices.Repeat([]api.Pitch{high}, m))...)
		}
	}
}

// P6.5: the document's examples, edges, and clefs that need equally few ledger lines.
func TestBestExamples(t *testing.T) {
	for _, x := range []struct {
		key  int
		l    []api.Pitch
		want api.Clef
		e    api.Errno
	}{
		{0, []api.Pitch{made(0, 4, 0)}, on(0, 1), api.OK}, {0, nil, on(0, 1), api.OK}, {2, []api.Pitch{}, on(0, 1), api.OK}, {0, []api.Pitch{made(0, 3, 0), made(0, 6, 0)}, api.Clef{}, api.ErrNone},
		// One ledger line under C1, none from C2 on.
		{0, []api.Pitch{made(5, 3, 0)}, on(0, 2), api.OK}, {1, []api.Pitch{made(6, 3, 0)}, on(0, 1), api.OK},
		// The same places as under F1 and G5, then as under F2, then as under F3.
		{0, []api.Pitch{made(3, 3, 0), made(4, 4, 0)}, on(0, 3), api.OK}, {0, []api.Pitch{made(1, 3, 0)}, on(0, 4), api.OK}, {0, []api.Pitch{made(6, 2, 0)}, on(0, 5), api.OK},
		// The only clefs with few ledger lines far below and far above, the lowest and the highest places of all, and beyond them.
		{0, []api.Pitch{made(2, 2, 0)}, on(3, 5), api.OK}, {0, []api.Pitch{made(2, 6, 0)}, on(4, 1), api.OK}, {0, []api.Pitch{made(5, 1, 0)}, on(3, 5), api.OK},
		{0, []api.Pitch{made(4, 1, 0)}, api.Clef{}, api.ErrNone}, {0, []api.Pitch{made(3, 6, 0)}, api.Clef{}, api.ErrNone},
		// From the lowest place to the highest one of C1, and one step more on both sides.
		{0, []api.Pitch{made(3, 3, 0), made(5, 5, 0)}, on(0, 1), api.OK}, {0, []api.Pitch{made(2, 3, 0), made(5, 5, 0)}, api.Clef{}, api.ErrNone}, {0, []api.Pitch{made(3, 3, 0), made(6, 5, 0)}, api.Clef{}, api.ErrNone},
	} {
		if c, e := clef.Best(x.key, x.l); c != x.want || e != x.e {
			t.Errorf("%v: %v %v", x, c, e)
		}
	}
}

// P6.5: the error of the key, then that of a pitch, at each place of the list; only then that no clef has the pitches.
func TestBestErrors(t *testing.T) {
	apart := []api.Pitch{made(0, 0, 0), made(0, 3, 0), made(0, 8, 0)}
	for _, key := range someKeys() {
		want := api.ErrNone
		if !isFrom(key, 0, 2) {
			want = api.ErrRange
		}
		if c, e := clef.Best(key, apart); c != (api.Clef{}) || e != want {
			t.Errorf("Best(%d, %v): %v %v", key, apart, c, e)
		}
		for _, p := range somePitches() {
			if isPitch(p) {
				continue
			}
			for i := range len(apart) + 1 {
				l := slices.Insert(slices.Clone(apart), i, p)
				if c, e := clef.Best(key, l); c != (api.Clef{}) || e != api.ErrRange {
					t.Errorf("Best(%d, %v): %v %v", key, l, c, e)
				}
			}
		}
	}
}

// P6.5: any int as a key and in each field of a pitch.
func TestBestInts(t *testing.T) {
	for _, n := range anyInts() {
		for _, l := range [][]api.Pitch{nil, {made(0, 4, 0)}, {made(0, 4, 0), made(1, 4, 0)}} {
			if c, e := clef.Best(n, l); isFrom(n, 0, 2) != (e == api.OK) || e != api.OK && (e != api.ErrRange || c != (api.Clef{})) {
				t.Errorf("Best(%d, %v): %v %v", n, l, c, e)
			}
		}
		for _, p := range []api.Pitch{made(n, 4, 0), made(0, n, 0), made(0, 4, n), made(n, n, n)} {
			if isPitch(p) {
				checkBest(t, 0, made(0, 4, 0), p)
			} else if c, e := clef.Best(0, []api.Pitch{made(0, 4, 0), p}); e != api.ErrRange || c != (api.Clef{}) {
				t.Errorf("Best with %v: %v %v", p, c, e)
			}
		}
	}
	if c, e := clef.Best(math.MinInt, []api.Pitch{made(math.MaxInt, math.MinInt, math.MaxInt)}); e != api.ErrRange || c != (api.Clef{}) {
		t.Errorf("a key and a pitch out of range: %v %v", c, e)
	}
}

// P6.5: a long list, which is not changed.
func TestBestLong(t *testing.T) {
	l := slices.Repeat(plain()[20:30], 10000)
	before := slices.Clone(l)
	checkBest(t, 2, l...)
	if !slices.Equal(l, before) {
		t.Error("the pitches are changed")
	}
}
