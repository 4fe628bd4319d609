package gamut_test

import (
	"math"
	"slices"
	"strings"
	"testing"

	"tactus/api"
	"tactus/gamut"
	"tactus/pitch"
)

func made(step, octave, alter int) api.Pitch {
	return api.Pitch{Step: step, Octave: octave, Alter: alter}
}

func way(hex, syl int) api.Syllable { return api.Syllable{Hex: hex, Syl: syl} }

// melody reads pitches with blanks between them.
func melody(text string) []api.Pitch {
	var l []api.Pitch
	for _, s := range strings.Fields(text) {
		p, e := pitch.Parse(s)
		if e != api.OK {
			panic(s)
		}
		l = append(l, p)
	}
	return l
}

// one reads one pitch.
func one(text string) api.Pitch { return melody(text)[0] }

// hexachords has the pitches of each hexachord from ut to la, written out.
var hexachords = [][]api.Pitch{
	melody("g2 a2 b2 c3 d3 e3"), melody("c3 d3 e3 f3 g3 a3"), melody("f3 g3 a3 bb3 c4 d4"), melody("g3 a3 b3 c4 d4 e4"),
	melody("c4 d4 e4 f4 g4 a4"), melody("f4 g4 a4 bb4 c5 d5"), melody("g4 a4 b4 c5 d5 e5"),
}

// sung has the ways of each pitch of the gamut, by ascending hexachords.
func sung() map[api.Pitch][]api.Syllable {
	l := map[api.Pitch][]api.Syllable{}
	for h, pitches := range hexachords {
		for s, p := range pitches {
			l[p] = append(l[p], way(h+1, s+1))
		}
	}
	return l
}

// allSung are the pitches of the gamut, from the lowest one on.
func allSung() []api.Pitch {
	return melody("g2 a2 b2 c3 d3 e3 f3 g3 a3 bb3 b3 c4 d4 e4 f4 g4 a4 bb4 b4 c5 d5 e5")
}

// allValid are all valid pitches.
func allValid() []api.Pitch {
	var l []api.Pitch
	for octave := range 9 {
		for step := range 7 {
			for alter := -1; alter <= 1; alter++ {
				l = append(l, made(step, octave, alter))
			}
		}
	}
	return l
}

// anyInts are ints of all sizes.
func anyInts() []int {
	return []int{
		math.MinInt, math.MinInt + 1, math.MinInt / 2, math.MinInt32, -1 << 32, -256, -127, -20, -19, -18, -8, -7, -6, -2, -1, 0, 1, 2, 3, 4, 5, 6, 7, 8, 9, 15, 16,
		18, 19, 20, 21, 62, 63, 127, 128, 255, 256, 257, 1 << 31, 1 << 32, 1<<32 + 1, 1<<32 + 6, 1 << 62, math.MaxInt - 18, math.MaxInt - 1, math.MaxInt,
	}
}

// invalid are pitches of which at least one field is out of range.
func invalid() []api.Pitch {
	var l []api.Pitch
	for _, step := range anyInts() {
		for _, octave := range anyInts() {
			for _, alter := range anyInts() {
				if step < 0 || step > 6 || octave < 0 || octave > 8 || alter < -1 || alter > 1 {
					l = append(l, made(step, octave, alter))
				}
			}
		}
	}
	return l
}

// P4.1: the place of every valid pitch.
func TestPlace(t *testing.T) {
	for i, p := range allValid() {
		want, f := i/3-18, api.OK // each number has three pitches
		if want < 0 || want > 19 {
			want, f = 0, api.ErrRange
		}
		if n, e := gamut.Place(p); n != want || e != f {
			t.Errorf("Place(%v): %d %v, not %d %v", p, n, e, want, f)
		}
	}
}

// P4.1: the places 0 and 19, whatever the Alter, and one beyond.
func TestFirstLastPlace(t *testing.T) {
	for text, want := range map[string]int{"g2": 0, "gb2": 0, "g#2": 0, "a2": 1, "d5": 18, "e5": 19, "eb5": 19, "e#5": 19, "b3": 9, "bb3": 9, "bb4": 16, "c4": 10} {
		if n, e := gamut.Place(one(text)); n != want || e != api.OK {
			t.Errorf("Place(%s): %d %v, not %d", text, n, e, want)
		}
	}
	for _, text := range []string{"f2", "f#2", "fb2", "f5", "f#5", "fb5", "c0", "cb0", "b8", "b#8", "g1", "e6"} {
		if n, e := gamut.Place(one(text)); n != 0 || e != api.ErrRange {
			t.Errorf("Place(%s): %d %v", text, n, e)
		}
	}
}

// P4.1, P4.2: an invalid pitch has no place and no ways.
func TestInvalid(t *testing.T) {
	for _, p := range invalid() {
		if n, e := gamut.Place(p); n != 0 || e != api.ErrRange {
			t.Fatalf("Place(%v): %d %v", p, n, e)
		}
		if l, e := gamut.Ways(p); len(l) != 0 || e != api.ErrRange {
			t.Fatalf("Ways(%v): %v %v", p, l, e)
		}
	}
}

// P4.1: the name of each place.
func TestName(t *testing.T) {
	for place, want := range []string{
		"Gamma ut", "A re", "B mi", "C fa ut", "D sol re", "E la mi", "F fa ut", "G sol re ut", "a la mi re", "b fa b mi", "c sol fa ut", "d la sol re",
		"e la mi", "f fa ut", "g sol re ut", "aa la mi re", "bb fa bb mi", "cc sol fa", "dd la sol", "ee la",
	} {
		if s, e := gamut.Name(place); s != want || e != api.OK {
			t.Errorf("Name(%d): %q %v, not %q", place, s, e, want)
		}
	}
	for _, place := range anyInts() {
		s, e := gamut.Name(place)
		if is := place >= 0 && place <= 19; is != (e == api.OK) || !is && (s != "" || e != api.ErrRange) {
			t.Errorf("Name(%d): %q %v", place, s, e)
		}
	}
}

// P4.1: the word of each syllable.
func TestWord(t *testing.T) {
	for i, want := range []string{"ut", "re", "mi", "fa", "sol", "la"} {
		if s, e := gamut.Word(i + 1); s != want || e != api.OK {
			t.Errorf("Word(%d): %q %v, not %q", i+1, s, e, want)
		}
	}
	for _, syl := range anyInts() {
		s, e := gamut.Word(syl)
		if is := syl >= 1 && syl <= 6; is != (e == api.OK) || !is && (s != "" || e != api.ErrRange) {
			t.Errorf("Word(%d): %q %v", syl, s, e)
		}
	}
}

// P4.2: every syllable of every hexachord.
func TestPitch(t *testing.T) {
	for h, pitches := range hexachords {
		for s, want := range pitches {
			if p, e := gamut.Pitch(way(h+1, s+1)); p != want || e != api.OK {
				t.Errorf("Pitch(%d, %d): %v %v, not %v", h+1, s+1, p, e, want)
			}
		}
	}
	for _, hex := range anyInts() {
		for _, syl := range anyInts() {
			p, e := gamut.Pitch(way(hex, syl))
			if is := hex >= 1 && hex <= 7 && syl >= 1 && syl <= 6; is != (e == api.OK) || !is && (p != made(0, 0, 0) || e != api.ErrRange) {
				t.Errorf("Pitch(%d, %d): %v %v", hex, syl, p, e)
			}
		}
	}
}

// P4.2: the ways of the document's examples.
func TestWays(t *testing.T) {
	for _, c := range []struct {
		pitch string
		ways  []api.Syllable
	}{
		{"g2", []api.Syllable{way(1, 1)}}, {"g4", []api.Syllable{way(5, 5), way(6, 2), way(7, 1)}}, {"b3", []api.Syllable{way(4, 3)}}, {"bb3", []api.Syllable{way(3, 4)}},
		{"b4", []api.Syllable{way(7, 3)}}, {"bb4", []api.Syllable{way(6, 4)}}, {"b2", []api.Syllable{way(1, 3)}}, {"bb2", nil}, {"b#3", nil}, {"b#4", nil},
		{"e5", []api.Syllable{way(7, 6)}}, {"f#4", nil}, {"f2", nil}, {"f5", nil}, {"eb4", nil}, {"gb2", nil}, {"e#5", nil}, {"b5", nil}, {"bb5", nil}, {"c0", nil}, {"b8", nil},
	} {
		if l, e := gamut.Ways(one(c.pitch)); !slices.Equal(l, c.ways) || e != api.OK {
			t.Errorf("Ways(%s): %v %v, not %v", c.pitch, l, e, c.ways)
		}
	}
}

// P4.2: the ways of every valid pitch.
func TestAllWays(t *testing.T) {
	want := sung()
	for _, p := range allValid() {
		if l, e := gamut.Ways(p); !slices.Equal(l, want[p]) || e != api.OK {
			t.Errorf("Ways(%v): %v %v, not %v", p, l, e, want[p])
		}
	}
}

// P4.2: ways are new memory at each call.
func TestWaysAreNew(t *testing.T) {
	l, _ := gamut.Ways(one("g4"))
	l[0], l[1] = way(1, 1), way(1, 1)
	if again, _ := gamut.Ways(one("g4")); !slices.Equal(again, sung()[one("g4")]) {
		t.Errorf("after a change: %v", again)
	}
}
