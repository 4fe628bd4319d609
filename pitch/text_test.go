package pitch_test

import (
	"strings"
	"testing"

	"tactus/api"
	"tactus/pitch"
)

// P3.3: Text and Parse for every valid pitch.
func TestAllTexts(t *testing.T) {
	for _, k := range allKnown() {
		if s, e := pitch.Text(k.pitch); s != k.text || e != api.OK {
			t.Errorf("Text(%v): %q %v, not %q", k.pitch, s, e, k.text)
		}
		if p, e := pitch.Parse(k.text); p != k.pitch || e != api.OK {
			t.Errorf("Parse(%q): %v %v, not %v", k.text, p, e, k.pitch)
		}
	}
}

// P3.3: texts that Parse reads. The letter b is a sign only after another letter.
func TestParse(t *testing.T) {
	for s, want := range map[string]api.Pitch{
		"bb3": made(6, 3, -1), "b3": made(6, 3, 0), "b#3": made(6, 3, 1), "ab0": made(5, 0, -1), "cb0": made(0, 0, -1), "c4": made(0, 4, 0), "f#8": made(3, 8, 1), "e8": made(2, 8, 0),
	} {
		if p, e := pitch.Parse(s); p != want || e != api.OK {
			t.Errorf("Parse(%q): %v %v, not %v", s, p, e, want)
		}
	}
}

// P3.3: texts that Parse refuses.
func TestParseErrors(t *testing.T) {
	for _, s := range []string{
		"", "c", "b", "4", "#", "bb", "c#", "cb", "#4", "b#", "44", "4c", "\x00", "\xff",
		"c9", "c#9", "cb9", "c-1", "c10", "c04", "c40", "c/", "c:", "h3", "i3", "C4", "B3", "H3", "c#", "c##4", "cbb4", "bbb3", "cb#4", "c#b4", "c♭4", "c♯4", "cn4", "cB4", "c4#", "c4b", "4#c", "#c4",
		"c 4", " c4", "c4 ", "c4\n", "\tc4", "c+4", "c-4", "c.4", "c\x004", "c4\x00", "\x00c4", "c4c4", "c4d", "cd4", "cc4", "c\xff4", "\xff4", "c\xff", "c٣", "c４", "ｃ4", "cé4", "c!4", "c\"4", "c$4", "ca4",
		"c" + strings.Repeat("#", 100000) + "4", "c" + strings.Repeat("4", 100000), strings.Repeat("c4", 100000), strings.Repeat("\x00", 100000),
	} {
		if p, e := pitch.Parse(s); p != (api.Pitch{}) || e != api.ErrForm {
			t.Errorf("Parse(%.30q): %v %v", s, p, e)
		}
	}
}

// P3.3: of all texts of up to three bytes, and of longer ones of the bytes of pitches, only those of the pitches are read.
func TestParseBytes(t *testing.T) {
	pitches := map[string]api.Pitch{}
	for _, k := range allKnown() {
		pitches[k.text] = k.pitch
	}
	read := 0
	try := func(s string) {
		p, e := pitch.Parse(s)
		if e == api.OK {
			read++
			if want, is := pitches[s]; !is || p != want {
				t.Fatalf("Parse(%q): %v, not %v", s, p, want)
			}
		} else if e != api.ErrForm || p != (api.Pitch{}) {
			t.Fatalf("Parse(%q): %v %v", s, p, e)
		}
	}
	try("")
	for a := range 256 {
		try(string([]byte{byte(a)}))
		for b := range 256 {
			try(string([]byte{byte(a), byte(b)}))
			for c := range 256 {
				try(string([]byte{byte(a), byte(b), byte(c)}))
			}
		}
	}
	if read != len(pitches) {
		t.Errorf("%d texts are read, not %d", read, len(pitches))
	}
	for _, s := range texts("bcdh#- 0489\xff", 5) {
		if len(s) > 3 {
			try(s)
		}
	}
	if read != len(pitches) {
		t.Errorf("%d of the longer texts are read", read-len(pitches))
	}
}

// texts are all texts of up to most of these bytes.
func texts(letters string, most int) []string {
	all, last := []string{""}, []string{""}
	for range most {
		var next []string
		for _, s := range last {
			for i := range len(letters) {
				next = append(next, s+letters[i:i+1])
			}
		}
		all, last = append(all, next...), next
	}
	return all
}
