package gamut_test

import (
	"slices"
	"testing"

	"tactus/api"
	"tactus/gamut"
)

// smooth tells whether a mutation from a to b is smooth.
func smooth(a, b api.Syllable) bool {
	before, after := hexachords[a.Hex-1], hexachords[b.Hex-1]
	return slices.Contains(before, after[b.Syl-1]) || slices.Contains(after, before[a.Syl-1])
}

// sum counts the mutations of a list of ways, and those that are not smooth.
func sum(l []api.Syllable) (mutations, rough int) {
	for i, w := range l {
		if i == 0 || w.Hex == l[i-1].Hex {
			continue
		}
		mutations++
		if !smooth(l[i-1], w) {
			rough++
		}
	}
	return mutations, rough
}

// solmizations are all solmizations of a melody, in the order of their lists of hexachords.
func solmizations(ways map[api.Pitch][]api.Syllable, l []api.Pitch) [][]api.Syllable {
	all := [][]api.Syllable{nil}
	for _, p := range l {
		var next [][]api.Syllable
		for _, before := range all {
			for _, w := range ways[p] {
				next = append(next, append(slices.Clip(before), w))
			}
		}
		all = next
	}
	return all
}

// best goes through all solmizations of a melody.
func best(ways map[api.Pitch][]api.Syllable, l []api.Pitch) ([]api.Syllable, int) {
	var found []api.Syllable
	least, leastRough := len(l)+1, 0
	for _, x := range solmizations(ways, l) {
		if mutations, rough := sum(x); mutations < least || mutations == least && rough < leastRough {
			found, least, leastRough = x, mutations, rough
		}
	}
	return found, least
}

// short calls f with all melodies of up to most of these pitches, but not with the empty one.
func short(pitches []api.Pitch, most int, f func([]api.Pitch)) {
	var grow func([]api.Pitch)
	grow = func(l []api.Pitch) {
		if len(l) > 0 {
			f(l)
		}
		if len(l) < most {
			for _, p := range pitches {
				grow(append(slices.Clip(l), p))
			}
		}
	}
	grow(nil)
}

// longer are melodies of this length over the gamut: walks by small and by large steps.
func longer(count, length int) [][]api.Pitch {
	pitches := allSung()
	var l [][]api.Pitch
	state := uint32(12345)
	next := func(n int) int {
		state = state*1664525 + 1013904223
		return int(state>>8) % n
	}
	for i := range count {
		at := next(len(pitches))
		var m []api.Pitch
		for range length {
			m = append(m, pitches[at])
			reach := 1 + i%7
			at = min(max(at+next(2*reach+1)-reach, 0), len(pitches)-1)
		}
		l = append(l, m)
	}
	return l
}

// P4.3: melodies with known solmizations.
func TestSolmize(t *testing.T) {
	for _, c := range []struct {
		melody    string
		want      []api.Syllable
		mutations int
	}{
		{"", nil, 0},
		{"g2", []api.Syllable{way(1, 1)}, 0},
		{"g4", []api.Syllable{way(5, 5)}, 0},
		{"c4 d4 e4 f4 g4 a4", []api.Syllable{way(5, 1), way(5, 2), way(5, 3), way(5, 4), way(5, 5), way(5, 6)}, 0},
		{"g3 a3 b3 c4 d4 e4 f4", []api.Syllable{way(4, 1), way(4, 2), way(4, 3), way(4, 4), way(4, 5), way(4, 6), way(5, 4)}, 1},
		{"b3 f4", []api.Syllable{way(4, 3), way(5, 4)}, 1},
		{"b3 bb3 b3", []api.Syllable{way(4, 3), way(3, 4), way(4, 3)}, 2},
		{"c4 e5", []api.Syllable{way(3, 5), way(7, 6)}, 1},
		{"c4 c4 b3", []api.Syllable{way(4, 4), way(4, 4), way(4, 3)}, 0},
		{"b3 c4 a4", []api.Syllable{way(4, 3), way(4, 4), way(5, 6)}, 1},
		// With 3 6 6 the mutation would not be smooth.
		{"c4 g4 bb4", []api.Syllable{way(5, 1), way(5, 5), way(6, 4)}, 1},
	} {
		l, n, e := gamut.Solmize(melody(c.melody))
		if !slices.Equal(l, c.want) || n != c.mutations || e != api.OK {
			t.Errorf("Solmize(%s): %v %d %v, not %v %d", c.melody, l, n, e, c.want, c.mutations)
		}
	}
}

// P4.3: the solmization of every short melody is the best one of all.
func TestSolmizeAll(t *testing.T) {
	ways := sung()
	count := 0
	short(allSung(), 4, func(l []api.Pitch) {
		count++
		want, mutations := best(ways, l)
		if got, n, e := gamut.Solmize(l); !slices.Equal(got, want) || n != mutations || e != api.OK {
			t.Fatalf("Solmize(%v): %v %d %v, not %v %d", l, got, n, e, want, mutations)
		}
	})
	if count != 22+22*22+22*22*22+22*22*22*22 {
		t.Errorf("%d melodies", count)
	}
}

// P4.3: the same for melodies of up to nine pitches.
func TestSolmizeLonger(t *testing.T) {
	ways := sung()
	for length := 5; length <= 9; length++ {
		for _, l := range longer(200, length) {
			want, mutations := best(ways, l)
			if got, n, e := gamut.Solmize(l); !slices.Equal(got, want) || n != mutations || e != api.OK {
				t.Fatalf("Solmize(%v): %v %d %v, not %v %d", l, got, n, e, want, mutations)
			}
		}
	}
}

// P4.3: a melody has at most 400 pitches.
func TestSolmizeLength(t *testing.T) {
	for _, l := range longer(50, 400) {
		got, n, e := gamut.Solmize(l)
		if len(got) != 400 || e != api.OK {
			t.Fatalf("%d ways, %v", len(got), e)
		}
		for i, w := range got {
			if p, e := gamut.Pitch(w); p != l[i] || e != api.OK {
				t.Fatalf("%v is sung with %v", l[i], w)
			}
		}
		if mutations, _ := sum(got); n != mutations {
			t.Fatalf("%d mutations, not %d", n, mutations)
		}
	}
	for _, l := range [][]api.Pitch{longer(1, 401)[0], make([]api.Pitch, 401), slices.Repeat([]api.Pitch{made(0, 0, 7)}, 401), make([]api.Pitch, 100000)} {
		if got, n, e := gamut.Solmize(l); len(got) != 0 || n != 0 || e != api.ErrFull {
			t.Errorf("%d pitches: %d ways, %d %v", len(l), len(got), n, e)
		}
	}
}

// P4.3: the first pitch that is invalid or not in the gamut counts.
func TestSolmizeErrors(t *testing.T) {
	good, outside, bad := one("g3"), one("f#4"), made(0, 9, 0)
	for _, c := range []struct {
		l    []api.Pitch
		want api.Errno
	}{
		{[]api.Pitch{bad}, api.ErrRange}, {[]api.Pitch{outside}, api.ErrNone}, {[]api.Pitch{good, bad}, api.ErrRange}, {[]api.Pitch{good, outside}, api.ErrNone},
		{[]api.Pitch{outside, bad}, api.ErrNone}, {[]api.Pitch{bad, outside}, api.ErrRange}, {[]api.Pitch{good, outside, good, bad}, api.ErrNone}, {[]api.Pitch{good, bad, good, outside}, api.ErrRange},
		{append(longer(1, 399)[0], outside), api.ErrNone}, {append(longer(1, 399)[0], bad), api.ErrRange}, {make([]api.Pitch, 400), api.ErrNone},
	} {
		if l, n, e := gamut.Solmize(c.l); len(l) != 0 || n != 0 || e != c.want {
			t.Errorf("Solmize(%v): %v %d %v, not %v", c.l, l, n, e, c.want)
		}
	}
	for _, p := range invalid() {
		for _, l := range [][]api.Pitch{{p}, {good, p}, {p, outside}} {
			if got, n, e := gamut.Solmize(l); len(got) != 0 || n != 0 || e != api.ErrRange {
				t.Fatalf("Solmize(%v): %v %d %v", l, got, n, e)
			}
		}
	}
	ways := sung()
	for _, p := range allValid() {
		want := api.OK
		if len(ways[p]) == 0 {
			want = api.ErrNone
		}
		if _, n, e := gamut.Solmize([]api.Pitch{good, good, p}); e != want || want != api.OK && n != 0 {
			t.Errorf("Solmize(g3 g3 %v): %d %v, not %v", p, n, e, want)
		}
	}
}

// P4.3: the argument is not changed.
func TestSolmizeArgument(t *testing.T) {
	l := longer(1, 50)[0]
	before := slices.Clone(l)
	if _, _, e := gamut.Solmize(l); e != api.OK || !slices.Equal(l, before) {
		t.Errorf("%v, before it was %v", l, before)
	}
}

// P4.4: mutations of given lists.
func TestMutations(t *testing.T) {
	for _, c := range []struct {
		l      []api.Syllable
		at     []int
		smooth []bool
	}{
		{nil, nil, nil},
		{[]api.Syllable{way(4, 3)}, nil, nil},
		{[]api.Syllable{way(4, 3), way(4, 6), way(4, 1)}, nil, nil},
		{[]api.Syllable{way(4, 6), way(5, 4)}, []int{1}, []bool{true}}, // e4 is in 5
		{[]api.Syllable{way(4, 3), way(5, 3)}, []int{1}, []bool{true}}, // e4 is in 4
		{[]api.Syllable{way(4, 3), way(5, 4)}, []int{1}, []bool{false}},
		{[]api.Syllable{way(5, 4), way(4, 3)}, []int{1}, []bool{false}},
		{[]api.Syllable{way(3, 4), way(4, 3)}, []int{1}, []bool{false}}, // the places are in both, but not the pitches
		{[]api.Syllable{way(4, 3), way(3, 4)}, []int{1}, []bool{false}},
		{[]api.Syllable{way(3, 1), way(2, 4)}, []int{1}, []bool{true}}, // the same pitch
		{[]api.Syllable{way(1, 1), way(7, 6), way(7, 1), way(5, 5), way(5, 5), way(6, 2)}, []int{1, 3, 5}, []bool{false, true, true}},
	} {
		at, smooth, e := gamut.Mutations(c.l)
		if !slices.Equal(at, c.at) || !slices.Equal(smooth, c.smooth) || e != api.OK {
			t.Errorf("Mutations(%v): %v %v %v, not %v %v", c.l, at, smooth, e, c.at, c.smooth)
		}
	}
	l, _, _ := gamut.Solmize(melody("b3 f4"))
	if at, smooth, e := gamut.Mutations(l); !slices.Equal(at, []int{1}) || !slices.Equal(smooth, []bool{false}) || e != api.OK {
		t.Errorf("Mutations(%v): %v %v %v", l, at, smooth, e)
	}
}

// P4.4: every pair of ways, in the midst of others.
func TestMutationPairs(t *testing.T) {
	var all []api.Syllable
	for hex := 1; hex <= 7; hex++ {
		for syl := 1; syl <= 6; syl++ {
			all = append(all, way(hex, syl))
		}
	}
	for _, a := range all {
		for _, b := range all {
			var at []int
			var isSmooth []bool
			if a.Hex != b.Hex {
				at = []int{2}
				isSmooth = []bool{smooth(a, b)}
			}
			got, gotSmooth, e := gamut.Mutations([]api.Syllable{a, a, b, b})
			if !slices.Equal(got, at) || !slices.Equal(gotSmooth, isSmooth) || e != api.OK {
				t.Fatalf("Mutations of %v and %v: %v %v %v, not %v %v", a, b, got, gotSmooth, e, at, isSmooth)
			}
		}
	}
}

// P4.4: at most 400 elements, and each of them has to be a way.
func TestMutationErrors(t *testing.T) {
	full := slices.Repeat([]api.Syllable{way(4, 6), way(5, 4)}, 200)
	if at, smooth, e := gamut.Mutations(full); len(at) != 399 || len(smooth) != 399 || e != api.OK {
		t.Errorf("400 ways: %d mutations, %d, %v", len(at), len(smooth), e)
	}
	for _, l := range [][]api.Syllable{append(full, way(4, 6)), make([]api.Syllable, 401), slices.Repeat(full, 100)} {
		if at, smooth, e := gamut.Mutations(l); len(at) != 0 || len(smooth) != 0 || e != api.ErrFull {
			t.Errorf("%d ways: %d mutations, %d, %v", len(l), len(at), len(smooth), e)
		}
	}
	for _, hex := range anyInts() {
		for _, syl := range anyInts() {
			if hex >= 1 && hex <= 7 && syl >= 1 && syl <= 6 {
				continue
			}
			bad := way(hex, syl)
			for _, l := range [][]api.Syllable{{bad}, {bad, way(1, 1)}, {way(1, 1), bad}, {way(1, 1), way(2, 2), bad, way(0, 0)}} {
				if at, smooth, e := gamut.Mutations(l); len(at) != 0 || len(smooth) != 0 || e != api.ErrRange {
					t.Fatalf("Mutations(%v): %v %v %v", l, at, smooth, e)
				}
			}
		}
	}
}
