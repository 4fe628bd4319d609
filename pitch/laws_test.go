package pitch_test

import (
	"testing"

	"tactus/api"
	"tactus/pitch"
)

// P3.4: Of and Number take each other back, up to the Alter.
func TestOfNumber(t *testing.T) {
	for _, p := range allValid() {
		n, e := pitch.Number(p)
		if e != api.OK {
			t.Fatal(p, e)
		}
		for alter := -1; alter <= 1; alter++ {
			if q, e := pitch.Of(n, alter); q != made(p.Step, p.Octave, alter) || e != api.OK {
				t.Errorf("%v has the number %d, which with %d is that of %v %v", p, n, alter, q, e)
			}
		}
	}
	for n := range 63 {
		for alter := -1; alter <= 1; alter++ {
			p, e := pitch.Of(n, alter)
			if m, f := pitch.Number(p); e != api.OK || f != api.OK || m != n || p.Alter != alter {
				t.Errorf("Of(%d, %d): %v %v, with the number %d %v", n, alter, p, e, m, f)
			}
		}
	}
}

// P3.4: a text is read back.
func TestReadBack(t *testing.T) {
	seen := map[string]bool{}
	for _, p := range allValid() {
		s, e := pitch.Text(p)
		if e != api.OK || seen[s] {
			t.Fatalf("Text(%v): %q %v", p, s, e)
		}
		seen[s] = true
		if q, e := pitch.Parse(s); q != p || e != api.OK {
			t.Errorf("%v: %q is read as %v %v", p, s, q, e)
		}
	}
}

// P3.4: what is read has the text that was read.
func TestWrittenBack(t *testing.T) {
	read := 0
	for _, s := range texts("abcdefgh#-0123456789", 3) {
		p, e := pitch.Parse(s)
		if e != api.OK {
			continue
		}
		read++
		if back, e := pitch.Text(p); back != s || e != api.OK {
			t.Errorf("%q is read as %v, which has the text %q %v", s, p, back, e)
		}
	}
	if read != 189 {
		t.Errorf("%d texts are read", read)
	}
}

// P3.5: moving twice, and moving back.
func TestMoves(t *testing.T) {
	twice := 0
	for _, p := range allValid() {
		for m := -63; m <= 63; m++ {
			q, e := pitch.Move(p, m)
			if e != api.OK {
				continue
			}
			if back, e := pitch.Move(q, -m); back != p || e != api.OK {
				t.Fatalf("%v, moved by %d and back: %v %v", p, m, back, e)
			}
			for n := -63; n <= 63; n++ {
				there, e := pitch.Move(q, n)
				if e != api.OK {
					continue
				}
				twice++
				if at, e := pitch.Move(p, m+n); at != there || e != api.OK {
					t.Fatalf("%v, moved by %d and %d: %v, but at once: %v %v", p, m, n, there, at, e)
				}
			}
		}
	}
	if twice != 3*63*63*63 {
		t.Errorf("moved twice %d times", twice)
	}
}

// P3.5: from one pitch to another one, up to the Alter, it is a move by the Steps of their interval.
func TestMovedInterval(t *testing.T) {
	for _, p := range allValid() {
		for _, q := range allValid() {
			i, e := pitch.Between(p, q)
			if e != api.OK {
				t.Fatal(p, q, e)
			}
			if there, e := pitch.Move(p, i.Steps); there != made(q.Step, q.Octave, p.Alter) || e != api.OK {
				t.Fatalf("from %v to %v: %v, but moved by it: %v %v", p, q, i, there, e)
			}
		}
	}
}

// P3.6: mirroring twice.
func TestMirrors(t *testing.T) {
	twice := 0
	for _, p := range allValid() {
		for _, axis := range allValid() {
			q, e := pitch.Mirror(p, axis)
			if e != api.OK {
				continue
			}
			twice++
			if back, e := pitch.Mirror(q, axis); back != p || e != api.OK {
				t.Fatalf("%v, mirrored twice at %v: %v %v", p, axis, back, e)
			}
		}
	}
	// The numbers of a pitch and of its mirror image are both even or both odd: 32 are even, 31 odd.
	if twice != 9*(32*32+31*31) {
		t.Errorf("mirrored twice %d times", twice)
	}
}

// P3.6: mirrored intervals go the other way.
func TestMirroredIntervals(t *testing.T) {
	for _, axis := range allValid() {
		var from, to []api.Pitch
		for _, p := range allValid() {
			if q, e := pitch.Mirror(p, axis); e == api.OK {
				from, to = append(from, p), append(to, q)
			}
		}
		if len(from) < 3 {
			t.Fatalf("only %v are mirrored at %v", from, axis)
		}
		for a := range from {
			for b := range from {
				i, e := pitch.Between(from[a], from[b])
				j, f := pitch.Between(to[a], to[b])
				if e != api.OK || f != api.OK || i.Steps != -j.Steps {
					t.Fatalf("from %v to %v: %v %v, but mirrored at %v: %v %v", from[a], from[b], i, e, axis, j, f)
				}
			}
		}
	}
}

// P3.7: intervals add up.
func TestIntervalsAdd(t *testing.T) {
	l := allValid()
	intervals := make([][]api.Interval, len(l))
	for a, p := range l {
		for _, q := range l {
			i, e := pitch.Between(p, q)
			if e != api.OK {
				t.Fatal(p, q, e)
			}
			intervals[a] = append(intervals[a], i)
		}
	}
	for a := range l {
		for b := range l {
			for c := range l {
				x, y, whole := intervals[a][b], intervals[b][c], intervals[a][c]
				if x.Steps+y.Steps != whole.Steps || x.Half+y.Half != whole.Half {
					t.Fatalf("from %v to %v: %v, to %v: %v, at once: %v", l[a], l[b], x, l[c], y, whole)
				}
			}
		}
	}
}
