package mens_test

import (
	"slices"
	"strings"
	"testing"

	"tactus/api"
	"tactus/mens"
)

// P5.4: the texts of all mensurations.
func TestTexts(t *testing.T) {
	for _, k := range allKnown() {
		if s, e := mens.Text(k.mens); s != k.text || e != api.OK {
			t.Errorf("Text(%v): %q %v, not %q", k.mens, s, e, k.text)
		}
		if m, e := mens.Parse(k.text); m != k.mens || e != api.OK {
			t.Errorf("Parse(%q): %v %v, not %v", k.text, m, e, k.mens)
		}
	}
}

// P5.4: texts that are none of a mensuration.
func TestParseErrors(t *testing.T) {
	for _, s := range []string{
		"", ".", "..", "2", "3", "22", "23", "32", "33", "23.", "33.", "o", "c", "0", "o.", "c.", "23o", "Q", "D", "CO", "OC", "CC", "OO",
		"22O", "22C", "22O.", "22C.", "O..", "C..", "23O..", "33C..", ".O", ".C", "2.3O", "23.O", "O.23", "O23", "C33", "2O", "3O", "2C", "3C.", "2O3", "3C2",
		"233O", "332C", "2323C", "333O.", "12O", "21O", "13C", "31C", "24C", "42C", "34O", "43O", "44C", "00O", "02O", "20C", "03C", "30C", "023O", "99C",
		" O", "O ", " C.", "C. ", "23 O", "2 3O", "O .", "\tO", "O\n", "O\x00", "\x00O", "+O", "-O", "O+", "O-", "+23O", "-23O", "-O.", "O.-", "|C", "C|", "\"O\"", "O;", "O,", "O:", "O/1", "O|",
		"O\xff", "\xff", "\xffC", "О", "С", "Ο", "○", "⊙", "O·", "O․", "２３O", "Ｏ", "é",
		strings.Repeat("O", 100000), "O" + strings.Repeat(".", 100000), strings.Repeat("23", 100000) + "O", strings.Repeat(" ", 100000),
	} {
		if m, e := mens.Parse(s); m != (api.Mens{}) || e != api.ErrForm {
			t.Errorf("Parse(%.30q): %v %v", s, m, e)
		}
	}
}

// P5.4: of all texts of up to five of the bytes of these texts and some others, only those of the mensurations are read.
func TestParseAll(t *testing.T) {
	byText := map[string]api.Mens{}
	for _, k := range allKnown() {
		byText[k.text] = k.mens
	}
	read := 0
	for _, s := range texts("123OC.o -", 5) {
		m, e := mens.Parse(s)
		if e == api.OK {
			read++
		}
		if want, is := byText[s]; m != want || is != (e == api.OK) || !is && e != api.ErrForm {
			t.Errorf("Parse(%q): %v %v, not %v", s, m, e, want)
		}
	}
	if read != 16 {
		t.Errorf("%d texts are read", read)
	}
}

// P5.4: a sign or any other byte in front of a text, behind it, or in the place of one of its bytes.
func TestParseOneByteMore(t *testing.T) {
	var all []string
	for _, k := range allKnown() {
		all = append(all, k.text)
	}
	for _, s := range all {
		for b := range 256 {
			one := string([]byte{byte(b)})
			for i := range len(s) + 1 {
				changed := []string{s[:i] + one + s[i:]}
				if i < len(s) {
					changed = append(changed, s[:i]+one+s[i+1:])
				}
				for _, x := range changed {
					if m, e := mens.Parse(x); slices.Contains(all, x) != (e == api.OK) || e != api.OK && (e != api.ErrForm || m != (api.Mens{})) {
						t.Errorf("Parse(%q): %v %v", x, m, e)
					}
				}
			}
		}
	}
}

// texts are all texts of up to most of these letters.
func texts(letters string, most int) []string {
	all, last := []string{""}, []string{""}
	for range most {
		var next []string
		for _, s := range last {
			for _, r := range letters {
				next = append(next, s+string(r))
			}
		}
		all, last = append(all, next...), next
	}
	return all
}

// P5.5: the numbers of all mensurations.
func TestNumbers(t *testing.T) {
	for want, k := range allKnown() {
		if n, e := mens.Number(k.mens); n != want || e != api.OK {
			t.Errorf("Number(%s): %d %v, not %d", k.text, n, e, want)
		}
		if m, e := mens.Of(want); m != k.mens || e != api.OK {
			t.Errorf("Of(%d): %v %v, not %v", want, m, e, k.mens)
		}
	}
	for number, m := range map[int]api.Mens{8: made(3, 2, 2, 2), 4: made(2, 3, 2, 2), 2: made(2, 2, 3, 2), 1: made(2, 2, 2, 3)} {
		if n, e := mens.Number(m); n != number || e != api.OK {
			t.Errorf("Number(%v): %d %v, not %d", m, n, e, number)
		}
	}
}

// P5.5: any int as a number.
func TestNoNumbers(t *testing.T) {
	for _, n := range anyInts() {
		m, e := mens.Of(n)
		if is := n >= 0 && n <= 15; is != (e == api.OK) || !is && (m != (api.Mens{}) || e != api.ErrRange) {
			t.Errorf("Of(%d): %v %v", n, m, e)
		}
	}
}
