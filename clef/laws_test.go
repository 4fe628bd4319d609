package clef_test

import (
	"slices"
	"testing"

	"tactus/api"
	"tactus/clef"
	"tactus/pitch"
)

// placed is Place of a pitch that has a place.
func placed(t *testing.T, c api.Clef, key int, p api.Pitch) (int, int) {
	place, acc, e := clef.Place(c, key, p)
	if e != api.OK {
		t.Fatalf("Place(%v, %d, %v): %v", c, key, p, e)
	}
	return place, acc
}

// P6.6: the place of a pitch that stands at a place, with the accidental or another one with the same alteration.
func TestPlaceOfPitch(t *testing.T) {
	for _, k := range allKnown() {
		for key := range 3 {
			for place := -4; place <= 12; place++ {
				for acc := -1; acc <= 2; acc++ {
					p, e := clef.Pitch(k.clef, key, place, acc)
					if e != api.OK {
						t.Fatal(k, key, place, acc, e)
					}
					there, other := placed(t, k.clef, key, p)
					if q, e := clef.Pitch(k.clef, key, place, other); there != place || q != p || e != api.OK {
						t.Errorf("%v in the key %d, at %d with %d: %v, which is at %d with %d: %v %v", k.clef, key, place, acc, p, there, other, q, e)
					}
				}
			}
		}
	}
}

// P6.6: the pitch at the place of a pitch; without an accidental only if the key has its alteration.
func TestPitchOfPlace(t *testing.T) {
	back := 0
	for _, k := range allKnown() {
		for key := range 3 {
			for _, p := range allValid() {
				place, acc, e := clef.Place(k.clef, key, p)
				if e != api.OK {
					continue
				}
				back++
				if q, e := clef.Pitch(k.clef, key, place, acc); q != p || e != api.OK {
					t.Errorf("%v in the key %d: %v is at %d with %d: %v %v", k.clef, key, p, place, acc, q, e)
				}
				if q, _ := clef.Pitch(k.clef, key, place, 0); (q == p) != (acc == 0) {
					t.Errorf("%v in the key %d: %v needs %d, and without it is %v", k.clef, key, p, acc, q)
				}
			}
		}
	}
	if back != 15*3*17*3 {
		t.Errorf("%d pitches have places", back)
	}
}

// P6.7: moved there and back; the pitch is the same one; whatever the place, clefs differ by the same steps.
func TestMoves(t *testing.T) {
	for _, k := range allKnown() {
		for _, other := range allKnown() {
			for place := -4; place <= 12; place++ {
				p, _ := clef.Pitch(k.clef, 0, place, 0)
				q, _ := clef.Pitch(other.clef, 0, place, 0)
				first, _ := pitch.Between(k.at(-4), other.at(-4))
				if i, e := pitch.Between(p, q); i.Steps != first.Steps || e != api.OK {
					t.Errorf("%v and %v differ by %d at %d, by %d at -4: %v", k.clef, other.clef, i.Steps, place, first.Steps, e)
				}
				there, e := clef.Moved(k.clef, other.clef, place)
				if e != api.OK {
					continue
				}
				if back, e := clef.Moved(other.clef, k.clef, there); back != place || e != api.OK {
					t.Errorf("from %v to %v: %d, %d, and back: %d %v", k.clef, other.clef, place, there, back, e)
				}
				if r, e := clef.Pitch(other.clef, 0, there, 0); r != p || e != api.OK {
					t.Errorf("from %v to %v: %v is moved to %v %v", k.clef, other.clef, p, r, e)
				}
			}
		}
	}
}

// total sums up what Ledgers says of the places of pitches.
func total(c api.Clef, key int, l []api.Pitch) (int, bool) {
	sum := 0
	for _, p := range l {
		place, _, e := clef.Place(c, key, p)
		if e != api.OK {
			return 0, false
		}
		n, _ := clef.Ledgers(place)
		sum += n
	}
	return sum, true
}

// P6.8: no clef needs fewer ledger lines than Best; an earlier one needs more.
func TestBestIsBest(t *testing.T) {
	l := plain()[11:46]
	for i := range l {
		for j := range l {
			several := []api.Pitch{l[i], l[j], l[(i+j)/2], l[i]}
			best, e := clef.Best(1, several)
			least, has := total(best, 1, several)
			if has != (e == api.OK) || !has && e != api.ErrNone {
				t.Errorf("Best(1, %v): %v %v", several, best, e)
			}
			before := true
			for _, k := range allKnown() {
				before = before && k.clef != best
				if n, is := total(k.clef, 1, several); is && (!has || n < least || n == least && before) {
					t.Errorf("Best(1, %v): %v with %d ledger lines, %v with %d", several, best, least, k.clef, n)
				}
			}
		}
	}
}

// P6.8: the order of the pitches does not matter, nor do their alterations and the key.
func TestBestInAnyOrder(t *testing.T) {
	l := plain()[11:46]
	for i := range l {
		for j := range l {
			several := []api.Pitch{l[i], l[j], l[j], l[(i*j)%len(l)], l[(i+j)/2]}
			want, wantErr := clef.Best(0, several)
			for n := range len(several) {
				other := slices.Concat(several[n:], several[:n])
				slices.Reverse(other[n:])
				other[n].Alter = n%3 - 1
				if c, e := clef.Best(n%3, other); c != want || e != wantErr {
					t.Errorf("%v: %v %v, but %v: %v %v", several, want, wantErr, other, c, e)
				}
			}
		}
	}
}

// P6.9: the alteration does not matter for the place.
func TestSameNumberSamePlace(t *testing.T) {
	for _, k := range allKnown() {
		for key := range 3 {
			for _, p := range plain() {
				place, _, e := clef.Place(k.clef, key, p)
				for alter := -1; alter <= 1; alter++ {
					if other, _, f := clef.Place(k.clef, key, made(p.Step, p.Octave, alter)); other != place || f != e {
						t.Errorf("%v in the key %d: %v at %d %v, with the alteration %d at %d %v", k.clef, key, p, place, e, alter, other, f)
					}
				}
			}
		}
	}
}
