package clef_test

import (
	"math"
	"testing"

	"tactus/api"
	"tactus/clef"
)

func on(step, line int) api.Clef { return api.Clef{Step: step, Line: line} }

func made(step, octave, alter int) api.Pitch {
	return api.Pitch{Step: step, Octave: octave, Alter: alter}
}

// known is a clef with the pitch of its lowest line, written out.
type known struct {
	clef   api.Clef
	bottom api.Pitch
}

// allKnown are the fifteen clefs, by steps, then lines.
func allKnown() []known {
	return []known{
		{on(0, 1), made(0, 4, 0)}, {on(0, 2), made(5, 3, 0)}, {on(0, 3), made(3, 3, 0)}, {on(0, 4), made(1, 3, 0)}, {on(0, 5), made(6, 2, 0)},
		{on(3, 1), made(3, 3, 0)}, {on(3, 2), made(1, 3, 0)}, {on(3, 3), made(6, 2, 0)}, {on(3, 4), made(4, 2, 0)}, {on(3, 5), made(2, 2, 0)},
		{on(4, 1), made(4, 4, 0)}, {on(4, 2), made(2, 4, 0)}, {on(4, 3), made(0, 4, 0)}, {on(4, 4), made(5, 3, 0)}, {on(4, 5), made(3, 3, 0)},
	}
}

// at counts from the lowest line to the pitch of a place, without alteration.
func (k known) at(place int) api.Pitch {
	p := k.bottom
	for ; place > 0; place-- {
		if p.Step++; p.Step == 7 {
			p.Step, p.Octave = 0, p.Octave+1
		}
	}
	for ; place < 0; place++ {
		if p.Step--; p.Step < 0 {
			p.Step, p.Octave = 6, p.Octave-1
		}
	}
	return p
}

// place looks for the place of a pitch, whatever its alteration.
func (k known) place(p api.Pitch) (int, bool) {
	for place := -4; place <= 12; place++ {
		if k.at(place) == made(p.Step, p.Octave, 0) {
			return place, true
		}
	}
	return 0, false
}

// inKey is the alteration of a step in a key.
func inKey(key, step int) int {
	if key >= 1 && step == 6 || key == 2 && step == 2 {
		return -1
	}
	return 0
}

// ledgers are the ledger lines of the places, from -4 on.
func ledgers() []int { return []int{2, 1, 1, 0, 0, 0, 0, 0, 0, 0, 0, 0, 0, 0, 1, 1, 2} }

// allValid are all valid pitches.
func allValid() []api.Pitch {
	var l []api.Pitch
	for octave := range 9 {
		for step := range 7 {
			l = append(l, made(step, octave, -1), made(step, octave, 0), made(step, octave, 1))
		}
	}
	return l
}

// anyInts are ints of all sizes.
func anyInts() []int {
	l := []int{
		math.MinInt, math.MinInt + 1, math.MinInt + 4, math.MinInt + 12, math.MinInt / 2, math.MinInt32, -1 << 32, -256, -254, 127, 128, 254, 255, 256, 257, 260,
		1 << 16, 1 << 31, 1 << 32, 1<<32 + 1, 1<<32 + 3, 1 << 62, math.MaxInt / 2, math.MaxInt - 44, math.MaxInt - 12, math.MaxInt - 8, math.MaxInt - 1, math.MaxInt,
	}
	for n := -40; n <= 70; n++ {
		l = append(l, n)
	}
	return l
}

// check is the error of a clef.
func check(c api.Clef) api.Errno {
	if c.Step != 0 && c.Step != 3 && c.Step != 4 {
		return api.ErrKind
	}
	if c.Line < 1 || c.Line > 5 {
		return api.ErrRange
	}
	return api.OK
}

// isFrom tells whether n is from low to high.
func isFrom(n, low, high int) bool { return n >= low && n <= high }

// isPitch tells whether p is valid.
func isPitch(p api.Pitch) bool {
	return isFrom(p.Step, 0, 6) && isFrom(p.Octave, 0, 8) && isFrom(p.Alter, -1, 1)
}

// someClefs are valid and invalid clefs.
func someClefs() []api.Clef {
	var l []api.Clef
	for _, step := range []int{math.MinInt, -4, -1, 0, 1, 2, 3, 4, 5, 6, 7, 256, 1<<32 + 3, math.MaxInt} {
		for _, line := range []int{math.MinInt, -1, 0, 1, 3, 5, 6, 7, 257, 1<<32 + 1, math.MaxInt} {
			l = append(l, on(step, line))
		}
	}
	return l
}

// somePitches are valid and invalid pitches.
func somePitches() []api.Pitch {
	var l []api.Pitch
	for _, step := range []int{math.MinInt, -1, 0, 2, 6, 7, math.MaxInt} {
		for _, octave := range []int{math.MinInt, -1, 0, 3, 4, 8, 9, math.MaxInt} {
			for _, alter := range []int{math.MinInt, -2, -1, 0, 1, 2, math.MaxInt} {
				l = append(l, made(step, octave, alter))
			}
		}
	}
	return l
}

// someKeys are valid and invalid keys.
func someKeys() []int {
	return []int{math.MinInt, -3, -1, 0, 1, 2, 3, 4, 7, 256, 1 << 32, math.MaxInt}
}

// P6.1: any int as the step and as the line of a clef.
func TestCheck(t *testing.T) {
	valid := 0
	for _, step := range anyInts() {
		for _, line := range anyInts() {
			c := on(step, line)
			e := clef.Check(c)
			if e == api.OK {
				valid++
			}
			if want := check(c); e != want {
				t.Errorf("Check(%v): %v, not %v", c, e, want)
			}
		}
	}
	if valid != 15 {
		t.Errorf("%d clefs are valid", valid)
	}
	for _, k := range allKnown() {
		if e := clef.Check(k.clef); e != api.OK {
			t.Errorf("Check(%v): %v", k.clef, e)
		}
	}
}

// P6.1: the step of a clef comes before its line, and lines and steps at the edges.
func TestCheckEdges(t *testing.T) {
	for c, want := range map[api.Clef]api.Errno{
		on(0, 0): api.ErrRange, on(3, 0): api.ErrRange, on(4, 0): api.ErrRange, on(0, 6): api.ErrRange, on(3, 6): api.ErrRange, on(4, 6): api.ErrRange, on(0, -1): api.ErrRange,
		on(1, 6): api.ErrKind, on(2, 1): api.ErrKind, on(5, 5): api.ErrKind, on(6, 3): api.ErrKind, on(7, 3): api.ErrKind, on(-1, 0): api.ErrKind, on(-3, 1): api.ErrKind, on(-4, 1): api.ErrKind,
		on(0, 1): api.OK, on(3, 1): api.OK, on(4, 1): api.OK, on(0, 5): api.OK, on(3, 5): api.OK, on(4, 5): api.OK,
	} {
		if e := clef.Check(c); e != want {
			t.Errorf("Check(%v): %v, not %v", c, e, want)
		}
	}
}

// P6.1, P6.2: the error of the clef, then that of the key, the place, and the accidental.
func TestPitchErrors(t *testing.T) {
	for _, c := range someClefs() {
		for _, key := range someKeys() {
			for _, place := range []int{math.MinInt, -5, -4, 0, 12, 13, 1 << 32, math.MaxInt} {
				for _, acc := range []int{math.MinInt, -3, -2, -1, 0, 1, 2, 3, 257, math.MaxInt} {
					want := check(c)
					if want == api.OK && (!isFrom(key, 0, 2) || !isFrom(place, -4, 12)) {
						want = api.ErrRange
					}
					if want == api.OK && !isFrom(acc, -1, 2) {
						want = api.ErrKind
					}
					p, e := clef.Pitch(c, key, place, acc)
					if e != want || e != api.OK && p != (api.Pitch{}) {
						t.Errorf("Pitch(%v, %d, %d, %d): %v %v, not %v", c, key, place, acc, p, e, want)
					}
				}
			}
		}
	}
}

// P6.2: any int as a key, a place and an accidental.
func TestPitchInts(t *testing.T) {
	for _, k := range allKnown() {
		for _, n := range anyInts() {
			if p, e := clef.Pitch(k.clef, n, 0, 0); isFrom(n, 0, 2) != (e == api.OK) || e != api.OK && (e != api.ErrRange || p != (api.Pitch{})) {
				t.Errorf("Pitch(%v, %d, 0, 0): %v %v", k.clef, n, p, e)
			}
			if p, e := clef.Pitch(k.clef, 2, n, 0); isFrom(n, -4, 12) != (e == api.OK) || e != api.OK && (e != api.ErrRange || p != (api.Pitch{})) {
				t.Errorf("Pitch(%v, 2, %d, 0): %v %v", k.clef, n, p, e)
			}
			if p, e := clef.Pitch(k.clef, 1, 0, n); isFrom(n, -1, 2) != (e == api.OK) || e != api.OK && (e != api.ErrKind || p != (api.Pitch{})) {
				t.Errorf("Pitch(%v, 1, 0, %d): %v %v", k.clef, n, p, e)
			}
		}
	}
}

// P6.2: the pitches of all places under all clefs, in all keys, with all accidentals.
func TestPitchAll(t *testing.T) {
	for _, k := range allKnown() {
		for key := range 3 {
			for place := -4; place <= 12; place++ {
				want := k.at(place)
				for acc, alter := range map[int]int{0: inKey(key, want.Step), -1: -1, 1: 1, 2: 0} {
					want.Alter = alter
					if p, e := clef.Pitch(k.clef, key, place, acc); p != want || e != api.OK {
						t.Errorf("Pitch(%v, %d, %d, %d): %v %v, not %v", k.clef, key, place, acc, p, e, want)
					}
				}
			}
		}
	}
}

// P6.2: the document's examples and the ends of the staff.
func TestPitchExamples(t *testing.T) {
	for _, x := range []struct {
		clef            api.Clef
		key, place, acc int
		want            api.Pitch
		e               api.Errno
	}{
		{on(0, 3), 0, 4, 0, made(0, 4, 0), api.OK}, {on(4, 2), 0, 2, 0, made(4, 4, 0), api.OK}, {on(3, 4), 0, 6, 0, made(3, 3, 0), api.OK},
		{on(0, 3), 1, 3, 0, made(6, 3, -1), api.OK}, {on(0, 3), 1, 3, 2, made(6, 3, 0), api.OK}, {on(0, 3), 2, 6, 0, made(2, 4, -1), api.OK},
		{on(0, 3), 1, 6, 0, made(2, 4, 0), api.OK}, {on(0, 3), 2, 6, 1, made(2, 4, 1), api.OK}, {on(0, 3), 2, 3, 1, made(6, 3, 1), api.OK},
		{on(0, 3), 2, 3, -1, made(6, 3, -1), api.OK}, {on(0, 3), 0, 3, 2, made(6, 3, 0), api.OK}, {on(0, 3), 0, 3, -1, made(6, 3, -1), api.OK},
		{on(3, 5), 0, -4, 0, made(5, 1, 0), api.OK}, {on(4, 1), 0, 12, 0, made(2, 6, 0), api.OK}, {on(4, 1), 2, 12, 0, made(2, 6, -1), api.OK},
		{on(0, 6), 0, 0, 0, api.Pitch{}, api.ErrRange}, {on(0, 3), 3, 0, 0, api.Pitch{}, api.ErrRange}, {on(0, 3), 0, 13, 9, api.Pitch{}, api.ErrRange},
		{on(0, 3), -1, 0, 3, api.Pitch{}, api.ErrRange}, {on(0, 3), 0, -5, 3, api.Pitch{}, api.ErrRange}, {on(0, 3), 0, 12, 3, api.Pitch{}, api.ErrKind}, {on(2, 3), 3, 13, 3, api.Pitch{}, api.ErrKind},
	} {
		if p, e := clef.Pitch(x.clef, x.key, x.place, x.acc); p != x.want || e != x.e {
			t.Errorf("%v: %v %v", x, p, e)
		}
	}
}

// P6.3: the places and the accidentals of all pitches under all clefs in all keys.
func TestPlaceAll(t *testing.T) {
	for _, k := range allKnown() {
		for key := range 3 {
			for _, p := range allValid() {
				want, has := k.place(p)
				wantAcc, wantErr := 0, api.OK
				switch {
				case !has:
					wantErr = api.ErrRange
				case p.Alter != inKey(key, p.Step):
					wantAcc = []int{-1, 2, 1}[p.Alter+1]
				}
				if place, acc, e := clef.Place(k.clef, key, p); place != want || acc != wantAcc || e != wantErr {
					t.Errorf("Place(%v, %d, %v): %d %d %v, not %d %d %v", k.clef, key, p, place, acc, e, want, wantAcc, wantErr)
				}
			}
		}
	}
}

// P6.3: the document's examples, and pitches at the ends of the staff and just beyond them.
func TestPlaceExamples(t *testing.T) {
	for _, x := range []struct {
		clef       api.Clef
		key        int
		pitch      api.Pitch
		place, acc int
		e          api.Errno
	}{
		{on(0, 3), 1, made(6, 3, 0), 3, 2, api.OK}, {on(0, 3), 0, made(6, 3, 0), 3, 0, api.OK}, {on(0, 3), 0, made(6, 3, -1), 3, -1, api.OK}, {on(0, 1), 0, made(3, 4, 1), 3, 1, api.OK},
		{on(0, 3), 1, made(6, 3, -1), 3, 0, api.OK}, {on(0, 3), 1, made(6, 3, 1), 3, 1, api.OK}, {on(0, 3), 2, made(2, 4, 1), 6, 1, api.OK}, {on(0, 3), 2, made(2, 4, 0), 6, 2, api.OK},
		{on(0, 3), 1, made(2, 4, 0), 6, 0, api.OK}, {on(0, 3), 1, made(2, 4, -1), 6, -1, api.OK}, {on(0, 3), 2, made(2, 4, -1), 6, 0, api.OK},
		{on(0, 3), 0, made(6, 2, 0), -4, 0, api.OK}, {on(0, 3), 0, made(5, 2, 0), 0, 0, api.ErrRange}, {on(0, 3), 0, made(5, 2, 1), 0, 0, api.ErrRange},
		{on(0, 3), 0, made(1, 5, 0), 12, 0, api.OK}, {on(0, 3), 0, made(2, 5, 0), 0, 0, api.ErrRange}, {on(0, 3), 0, made(2, 5, -1), 0, 0, api.ErrRange},
		{on(4, 2), 0, made(0, 2, 0), 0, 0, api.ErrRange}, {on(0, 3), 0, made(7, 2, 0), 0, 0, api.ErrRange}, {on(0, 3), 0, made(0, 4, 2), 0, 0, api.ErrRange}, {on(0, 3), 3, made(0, 4, 0), 0, 0, api.ErrRange},
		{on(1, 3), 3, made(7, 9, 2), 0, 0, api.ErrKind}, {on(3, 6), 3, made(7, 9, 2), 0, 0, api.ErrRange},
	} {
		if place, acc, e := clef.Place(x.clef, x.key, x.pitch); place != x.place || acc != x.acc || e != x.e {
			t.Errorf("%v: %d %d %v", x, place, acc, e)
		}
	}
}

// P6.1, P6.3: the error of the clef, then that of the key, and that of the pitch.
func TestPlaceErrors(t *testing.T) {
	for _, c := range someClefs() {
		for _, key := range someKeys() {
			for _, p := range somePitches() {
				want := check(c)
				if want == api.OK && (!isFrom(key, 0, 2) || !isPitch(p)) {
					want = api.ErrRange
				}
				place, acc, e := clef.Place(c, key, p)
				if want != api.OK && e != want || e != api.OK && (place != 0 || acc != 0) {
					t.Errorf("Place(%v, %d, %v): %d %d %v, not %v", c, key, p, place, acc, e, want)
				}
			}
		}
	}
}

// P6.3: any int as a key and in each field of a pitch.
func TestPlaceInts(t *testing.T) {
	for _, k := range allKnown() {
		p := k.at(4)
		for _, n := range anyInts() {
			if place, acc, e := clef.Place(k.clef, n, p); isFrom(n, 0, 2) != (e == api.OK) || e != api.OK && (e != api.ErrRange || place != 0 || acc != 0) {
				t.Errorf("Place(%v, %d, %v): %d %d %v", k.clef, n, p, place, acc, e)
			}
			for _, q := range []api.Pitch{made(n, p.Octave, 0), made(p.Step, n, 0), made(p.Step, p.Octave, n), made(n, n, n)} {
				place, has := k.place(q)
				got, acc, e := clef.Place(k.clef, 0, q)
				if is := has && isPitch(q); is != (e == api.OK) || is && got != place || !is && (e != api.ErrRange || got != 0 || acc != 0) {
					t.Errorf("Place(%v, 0, %v): %d %d %v", k.clef, q, got, acc, e)
				}
			}
		}
	}
}

// P6.4: any int as a place that may need ledger lines.
func TestLedgers(t *testing.T) {
	for i, want := range ledgers() {
		if n, e := clef.Ledgers(i - 4); n != want || e != api.OK {
			t.Errorf("Ledgers(%d): %d %v, not %d", i-4, n, e, want)
		}
	}
	for _, place := range anyInts() {
		if n, e := clef.Ledgers(place); isFrom(place, -4, 12) != (e == api.OK) || e != api.OK && (e != api.ErrRange || n != 0) {
			t.Errorf("Ledgers(%d): %d %v", place, n, e)
		}
	}
}

// P6.4: the document's examples.
func TestLedgersMovedExamples(t *testing.T) {
	for place, want := range map[int]int{-1: 0, -2: 1, -4: 2, 9: 0, 11: 1, 12: 2, -3: 1, 10: 1, 0: 0, 8: 0} {
		if n, e := clef.Ledgers(place); n != want || e != api.OK {
			t.Errorf("Ledgers(%d): %d %v, not %d", place, n, e, want)
		}
	}
	for _, x := range []struct {
		c, d        api.Clef
		place, want int
		e           api.Errno
	}{
		{on(0, 1), on(0, 3), 0, 4, api.OK}, {on(0, 3), on(0, 1), 4, 0, api.OK}, {on(0, 1), on(3, 5), 12, 0, api.ErrRange},
		{on(0, 1), on(0, 3), 8, 12, api.OK}, {on(0, 1), on(0, 3), 9, 0, api.ErrRange}, {on(0, 3), on(0, 1), 0, -4, api.OK}, {on(0, 3), on(0, 1), -1, 0, api.ErrRange},
		{on(0, 3), on(0, 1), 13, 0, api.ErrRange}, {on(0, 1), on(0, 3), -5, 0, api.ErrRange}, {on(0, 1), on(0, 1), 13, 0, api.ErrRange}, {on(0, 1), on(0, 1), -5, 0, api.ErrRange},
		{on(0, 6), on(1, 1), 13, 0, api.ErrRange}, {on(1, 1), on(0, 6), 13, 0, api.ErrKind}, {on(0, 1), on(1, 6), 13, 0, api.ErrKind}, {on(0, 1), on(3, 0), 0, 0, api.ErrRange},
	} {
		if place, e := clef.Moved(x.c, x.d, x.place); place != x.want || e != x.e {
			t.Errorf("%v: %d %v", x, place, e)
		}
	}
}

// P6.4: all places under all pairs of clefs.
func TestMovedAll(t *testing.T) {
	for _, k := range allKnown() {
		for _, other := range allKnown() {
			for place := -4; place <= 12; place++ {
				wantErr := api.OK
				want, has := other.place(k.at(place))
				if !has {
					wantErr = api.ErrRange
				}
				if there, e := clef.Moved(k.clef, other.clef, place); there != want || e != wantErr {
					t.Errorf("Moved(%v, %v, %d): %d %v, not %d %v", k.clef, other.clef, place, there, e, want, wantErr)
				}
			}
		}
	}
}

// P6.1, P6.4: the error of the first clef, then that of the second one, then any int as a place.
func TestMovedErrors(t *testing.T) {
	for _, c := range someClefs() {
		for _, d := range someClefs() {
			want := check(c)
			if want == api.OK {
				want = check(d)
			}
			for _, place := range []int{math.MinInt, -5, 0, 4, 13, math.MaxInt} {
				there, e := clef.Moved(c, d, place)
				if want != api.OK && e != want || e != api.OK && there != 0 {
					t.Errorf("Moved(%v, %v, %d): %d %v, not %v", c, d, place, there, e, want)
				}
			}
		}
	}
	for _, k := range allKnown() {
		for _, other := range allKnown() {
			for _, place := range anyInts() {
				if there, e := clef.Moved(k.clef, other.clef, place); !isFrom(place, -4, 12) && (there != 0 || e != api.ErrRange) {
					t.Errorf("Moved(%v, %v, %d): %d %v", k.clef, other.clef, place, there, e)
				}
			}
		}
	}
}
