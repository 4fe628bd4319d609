package pitch_test

import (
	"math"
	"testing"

	"tactus/api"
	"tactus/pitch"
)

func made(step, octave, alter int) api.Pitch {
	return api.Pitch{Step: step, Octave: octave, Alter: alter}
}

// known is a valid pitch with what the document says of it.
type known struct {
	pitch          api.Pitch
	number, height int
	text           string
}

// allKnown counts through all valid pitches, from c flat 0 on.
func allKnown() []known {
	var l []known
	number, height := 0, 0
	for octave, digit := range "012345678" {
		for step, letter := range "cdefgab" {
			for i, sign := range []string{"b", "", "#"} {
				alter := i - 1
				l = append(l, known{made(step, octave, alter), number, height + alter, string(letter) + sign + string(digit)})
			}
			number++
			height++
			if letter != 'e' && letter != 'b' {
				height++
			}
		}
	}
	return l
}

// allValid are all valid pitches.
func allValid() []api.Pitch {
	var l []api.Pitch
	for _, k := range allKnown() {
		l = append(l, k.pitch)
	}
	return l
}

// anyInts are ints of all sizes.
func anyInts() []int {
	return []int{
		math.MinInt, math.MinInt + 1, -7 << 40, math.MinInt / 2, math.MinInt32, -256, -127, -63, -62, -7, -6, -2, -1, 0, 1, 2, 3, 4, 5, 6, 7, 8, 9, 10, 11, 12,
		62, 63, 64, 127, 128, 255, 256, 257, 1 << 31, 1 << 32, 1<<32 + 1, 1 << 62, math.MaxInt / 7, math.MaxInt / 7 * 7, math.MaxInt - 62, math.MaxInt - 61, math.MaxInt - 1, math.MaxInt,
	}
}

// invalid are pitches of which at least one field is out of range.
func invalid() []api.Pitch {
	var l []api.Pitch
	for _, step := range anyInts() {
		for _, octave := range anyInts() {
			for _, alter := range anyInts() {
				if step < 0 || step > 6 || octave < 0 || octave > 8 || alter < -1 || alter > 1 {
					l = append(l, made(step, octave, alter))
				}
			}
		}
	}
	return l
}

// P3.1: Check, Number, Height and Of for every valid pitch.
func TestAllPitches(t *testing.T) {
	l := allKnown()
	if first, last := l[0], l[len(l)-1]; len(l) != 189 || first.number != 0 || first.height != -1 || last.number != 62 || last.height != 108 {
		t.Fatalf("%d pitches, from %v to %v", len(l), first, last)
	}
	for _, k := range l {
		if e := pitch.Check(k.pitch); e != api.OK {
			t.Errorf("Check(%v): %v", k.pitch, e)
		}
		if n, e := pitch.Number(k.pitch); n != k.number || e != api.OK {
			t.Errorf("Number(%v): %d %v, not %d", k.pitch, n, e, k.number)
		}
		if h, e := pitch.Height(k.pitch); h != k.height || e != api.OK {
			t.Errorf("Height(%v): %d %v, not %d", k.pitch, h, e, k.height)
		}
		if p, e := pitch.Of(k.number, k.pitch.Alter); p != k.pitch || e != api.OK {
			t.Errorf("Of(%d, %d): %v %v, not %v", k.number, k.pitch.Alter, p, e, k.pitch)
		}
	}
}

// P3.1: the pitches of the document's examples.
func TestNumberHeight(t *testing.T) {
	for _, c := range []struct {
		pitch          api.Pitch
		number, height int
	}{
		{made(0, 4, 0), 28, 48}, {made(6, 3, -1), 27, 46}, {made(0, 0, -1), 0, -1}, {made(6, 8, 1), 62, 108}, {made(3, 3, 1), 24, 42},
		{made(2, 4, 1), 30, 53}, {made(3, 4, -1), 31, 52}, {made(5, 4, 0), 33, 57},
	} {
		if n, e := pitch.Number(c.pitch); n != c.number || e != api.OK {
			t.Errorf("Number(%v): %d %v, not %d", c.pitch, n, e, c.number)
		}
		if h, e := pitch.Height(c.pitch); h != c.height || e != api.OK {
			t.Errorf("Height(%v): %d %v, not %d", c.pitch, h, e, c.height)
		}
	}
}

// P3.1, P3.3: no function of one pitch takes an invalid one; with an error there is no result.
func TestInvalid(t *testing.T) {
	for _, p := range invalid() {
		if e := pitch.Check(p); e != api.ErrRange {
			t.Fatalf("Check(%v): %v", p, e)
		}
		if n, e := pitch.Number(p); n != 0 || e != api.ErrRange {
			t.Fatalf("Number(%v): %d %v", p, n, e)
		}
		if h, e := pitch.Height(p); h != 0 || e != api.ErrRange {
			t.Fatalf("Height(%v): %d %v", p, h, e)
		}
		if s, e := pitch.Text(p); s != "" || e != api.ErrRange {
			t.Fatalf("Text(%v): %q %v", p, s, e)
		}
	}
}

// P3.1: Of takes any ints.
func TestOf(t *testing.T) {
	if p, e := pitch.Of(30, -1); p != made(2, 4, -1) || e != api.OK {
		t.Errorf("Of(30, -1): %v %v", p, e)
	}
	for _, number := range anyInts() {
		for _, alter := range anyInts() {
			want := api.OK
			if number < 0 || number > 62 || alter < -1 || alter > 1 {
				want = api.ErrRange
			}
			p, e := pitch.Of(number, alter)
			if e != want || want != api.OK && p != (api.Pitch{}) {
				t.Errorf("Of(%d, %d): %v %v, not %v", number, alter, p, e, want)
			}
		}
	}
}

// P3.2: the cases of Move.
func TestMove(t *testing.T) {
	for _, c := range []struct {
		from  api.Pitch
		steps int
		to    api.Pitch
	}{
		{made(3, 3, 1), 2, made(5, 3, 1)}, {made(1, 2, 0), 9, made(3, 3, 0)}, {made(2, 5, -1), -7, made(2, 4, -1)}, {made(4, 4, -1), 0, made(4, 4, -1)},
		{made(0, 0, 0), 62, made(6, 8, 0)}, {made(6, 8, 1), -62, made(0, 0, 1)}, {made(0, 4, 0), -1, made(6, 3, 0)}, {made(6, 3, 0), 1, made(0, 4, 0)},
	} {
		if p, e := pitch.Move(c.from, c.steps); p != c.to || e != api.OK {
			t.Errorf("Move(%v, %d): %v %v, not %v", c.from, c.steps, p, e, c.to)
		}
	}
	for _, c := range []struct {
		from  api.Pitch
		steps int
	}{
		{made(6, 8, 0), 1}, {made(0, 0, 0), -1}, {made(0, 0, 0), 63}, {made(6, 8, 0), -63}, {made(0, 4, 0), 35}, {made(0, 4, 0), -29},
		{made(6, 8, 0), math.MaxInt}, {made(6, 8, 0), math.MinInt}, {made(0, 0, 0), math.MaxInt}, {made(0, 0, 0), math.MinInt},
	} {
		if p, e := pitch.Move(c.from, c.steps); p != (api.Pitch{}) || e != api.ErrRange {
			t.Errorf("Move(%v, %d): %v %v", c.from, c.steps, p, e)
		}
	}
}

// P3.2: every valid pitch, moved by any number of steps.
func TestMoveAll(t *testing.T) {
	l := allKnown()
	steps := anyInts()
	for m := -130; m <= 130; m++ {
		steps = append(steps, m)
	}
	for i, k := range l {
		for _, m := range steps {
			want, f := api.Pitch{}, api.ErrRange
			if m >= -k.number && m <= 62-k.number {
				want, f = l[i+3*m].pitch, api.OK // each number has three pitches
			}
			if p, e := pitch.Move(k.pitch, m); p != want || e != f {
				t.Fatalf("Move(%v, %d): %v %v, not %v %v", k.pitch, m, p, e, want, f)
			}
		}
	}
	for _, p := range invalid() {
		for _, m := range []int{0, 1, -1, -p.Step, -7 * p.Octave, math.MinInt, math.MaxInt} {
			if q, e := pitch.Move(p, m); q != (api.Pitch{}) || e != api.ErrRange {
				t.Fatalf("Move(%v, %d): %v %v", p, m, q, e)
			}
		}
	}
}

// P3.2: the cases of Mirror.
func TestMirror(t *testing.T) {
	for _, c := range []struct {
		from, axis, to api.Pitch
	}{
		{made(1, 4, 0), made(4, 4, 0), made(0, 5, 0)}, {made(2, 4, -1), made(4, 4, 0), made(6, 4, 1)}, {made(5, 3, -1), made(0, 4, 0), made(2, 4, 1)},
		// The axis has its own Alter, which counts for nothing.
		{made(4, 4, 0), made(4, 4, 0), made(4, 4, 0)}, {made(4, 4, 1), made(4, 4, 1), made(4, 4, -1)}, {made(1, 4, 0), made(4, 4, -1), made(0, 5, 0)},
		{made(0, 0, 1), made(3, 4, 0), made(6, 8, -1)}, {made(6, 8, 0), made(3, 4, 1), made(0, 0, 0)},
	} {
		if p, e := pitch.Mirror(c.from, c.axis); p != c.to || e != api.OK {
			t.Errorf("Mirror(%v, %v): %v %v, not %v", c.from, c.axis, p, e, c.to)
		}
	}
	for _, c := range []struct{ from, axis api.Pitch }{
		{made(6, 8, 0), made(0, 1, 0)}, {made(6, 8, 0), made(2, 4, 0)}, {made(0, 0, 0), made(4, 4, 0)}, {made(0, 0, 0), made(6, 8, 0)}, {made(1, 0, 0), made(0, 0, 0)},
	} {
		if p, e := pitch.Mirror(c.from, c.axis); p != (api.Pitch{}) || e != api.ErrRange {
			t.Errorf("Mirror(%v, %v): %v %v", c.from, c.axis, p, e)
		}
	}
}

// P3.2: the cases of Between.
func TestBetween(t *testing.T) {
	for _, c := range []struct {
		from, to    api.Pitch
		steps, half int
	}{
		{made(0, 4, 0), made(4, 4, 0), 4, 7}, {made(6, 3, 0), made(3, 4, 0), 4, 6}, {made(2, 4, 0), made(0, 4, 0), -2, -4}, {made(4, 2, 1), made(6, 3, -1), 9, 14},
		{made(0, 0, -1), made(6, 8, 1), 62, 109}, {made(6, 8, 1), made(0, 0, -1), -62, -109}, {made(1, 5, 0), made(1, 5, 0), 0, 0}, {made(1, 5, -1), made(1, 5, 1), 0, 2},
		{made(2, 4, 1), made(3, 4, -1), 1, -1},
	} {
		if i, e := pitch.Between(c.from, c.to); i != (api.Interval{Steps: c.steps, Half: c.half}) || e != api.OK {
			t.Errorf("Between(%v, %v): %v %v, not %d and %d", c.from, c.to, i, e, c.steps, c.half)
		}
	}
}

// P3.2: Mirror and Between for all pairs of valid pitches.
func TestAllPairs(t *testing.T) {
	l := allKnown()
	for _, k := range l {
		for _, other := range l {
			interval := api.Interval{Steps: other.number - k.number, Half: other.height - k.height}
			if i, e := pitch.Between(k.pitch, other.pitch); i != interval || e != api.OK {
				t.Fatalf("Between(%v, %v): %v %v, not %v", k.pitch, other.pitch, i, e, interval)
			}
			want, f := api.Pitch{}, api.ErrRange
			if n := 2*other.number - k.number; n >= 0 && n <= 62 {
				want, f = l[3*n+1-k.pitch.Alter].pitch, api.OK
			}
			if p, e := pitch.Mirror(k.pitch, other.pitch); p != want || e != f {
				t.Fatalf("Mirror(%v, %v): %v %v, not %v %v", k.pitch, other.pitch, p, e, want, f)
			}
		}
	}
}

// P3.2: both pitches have to be valid.
func TestInvalidPairs(t *testing.T) {
	for _, p := range invalid() {
		for _, pair := range [][2]api.Pitch{{p, made(0, 4, 0)}, {made(0, 4, 0), p}, {p, p}} {
			if q, e := pitch.Mirror(pair[0], pair[1]); q != (api.Pitch{}) || e != api.ErrRange {
				t.Fatalf("Mirror(%v, %v): %v %v", pair[0], pair[1], q, e)
			}
			if i, e := pitch.Between(pair[0], pair[1]); i != (api.Interval{}) || e != api.ErrRange {
				t.Fatalf("Between(%v, %v): %v %v", pair[0], pair[1], i, e)
			}
		}
	}
}
