package notate_test

import (
	"math"
	"slices"
	"strconv"
	"strings"
	"testing"

	"tactus/api"
	"tactus/notate"
	"tactus/sign"
)

// known pairs words with their signs, written out for every kind and every field that the text shows.
func known() map[string]api.Sign {
	return map[string]api.Sign{
		"X0": {Kind: 1, Value: 1}, "L-4": {Kind: 1, Value: 2, Place: -4}, "B12": {Kind: 1, Value: 3, Place: 12}, "S-2b*": {Kind: 1, Value: 4, Place: -2, Acc: -1, Color: true}, "M4#": {Kind: 1, Value: 5, Place: 4, Acc: 1},
		"Q10n": {Kind: 1, Value: 6, Place: 10, Acc: 2}, "F-1*": {Kind: 1, Value: 7, Place: -1, Color: true}, "Z9#*": {Kind: 1, Value: 8, Place: 9, Acc: 1, Color: true}, "M0n*": {Kind: 1, Value: 5, Acc: 2, Color: true}, "M0b": {Kind: 1, Value: 5, Acc: -1},
		"rX": {Kind: 2, Value: 1}, "rL": {Kind: 2, Value: 2}, "rB": {Kind: 2, Value: 3}, "rS": {Kind: 2, Value: 4}, "rM": {Kind: 2, Value: 5}, "rQ": {Kind: 2, Value: 6}, "rF": {Kind: 2, Value: 7}, "rZ": {Kind: 2, Value: 8}, ".": {Kind: 3},
		"t4": {Kind: 4, Place: 4}, "t-4b": {Kind: 4, Place: -4, Acc: -1}, "t12#": {Kind: 4, Place: 12, Acc: 1}, "t0n": {Kind: 4, Acc: 2}, "t4*": {Kind: 4, Place: 4, Color: true}, "t4^": {Kind: 4, Place: 4, Stem: 1}, "t4v": {Kind: 4, Place: 4, Stem: 2}, "t4>": {Kind: 4, Place: 4, Stem: 3},
		"t4~": {Kind: 4, Place: 4, Oblique: true}, "t4!": {Kind: 4, Place: 4, Last: true}, "t4^!": {Kind: 4, Place: 4, Stem: 1, Last: true}, "t-3n*>~": {Kind: 4, Place: -3, Acc: 2, Color: true, Stem: 3, Oblique: true}, "t11b*v!": {Kind: 4, Place: 11, Acc: -1, Color: true, Stem: 2, Last: true},
		"(C)": {Kind: 5, Mens: api.Mens{Max: 2, Mod: 2, Tem: 2, Pro: 2}}, "(O)|": {Kind: 5, Mens: api.Mens{Max: 2, Mod: 2, Tem: 3, Pro: 2}, Stroke: true}, "(C.)": {Kind: 5, Mens: api.Mens{Max: 2, Mod: 2, Tem: 2, Pro: 3}}, "(O.)|": {Kind: 5, Mens: api.Mens{Max: 2, Mod: 2, Tem: 3, Pro: 3}, Stroke: true},
		"(23C)": {Kind: 5, Mens: api.Mens{Max: 2, Mod: 3, Tem: 2, Pro: 2}}, "(32O.)": {Kind: 5, Mens: api.Mens{Max: 3, Mod: 2, Tem: 3, Pro: 3}}, "(33C.)|": {Kind: 5, Mens: api.Mens{Max: 3, Mod: 3, Tem: 2, Pro: 3}, Stroke: true},
		"3/2": {Kind: 6, N: 3, D: 2}, "1/1": {Kind: 6, N: 1, D: 1}, "100/99": {Kind: 6, N: 100, D: 99}, "2/100": {Kind: 6, N: 2, D: 100}, "4/2": {Kind: 6, N: 4, D: 2},
		"@C3": {Kind: 7, Clef: api.Clef{Step: 0, Line: 3}}, "@F4": {Kind: 7, Clef: api.Clef{Step: 3, Line: 4}}, "@G2": {Kind: 7, Clef: api.Clef{Step: 4, Line: 2}}, "@C1": {Kind: 7, Clef: api.Clef{Step: 0, Line: 1}}, "@F5": {Kind: 7, Clef: api.Clef{Step: 3, Line: 5}},
		"&0": {Kind: 8}, "&1": {Kind: 8, N: 1}, "&2": {Kind: 8, N: 2}, "[": {Kind: 9}, "]2": {Kind: 10, N: 2}, "]3": {Kind: 10, N: 3}, "]4": {Kind: 10, N: 4}, "turn": {Kind: 11}, "sig": {Kind: 12},
	}
}

// P10.1: Word and Sign of signs of every kind, written out.
func TestKnown(t *testing.T) {
	for word, s := range known() {
		if w, e := notate.Word(s); w != word || e != api.OK {
			t.Errorf("Word(%+v): %q %v, not %q", s, w, e, word)
		}
		if got, e := notate.Sign(word); got != s || e != api.OK {
			t.Errorf("Sign(%q): %+v %v, not %+v", word, got, e, s)
		}
	}
}

// P10.1: signs that are not valid, of every kind and of none, written out.
func TestWordErrors(t *testing.T) {
	for _, c := range []struct {
		want  api.Errno
		signs []api.Sign
	}{
		{api.ErrKind, []api.Sign{{}, {Kind: 13}, {Kind: -1}, {Kind: math.MinInt}, {Kind: math.MaxInt}, {Kind: 256 + 1}, {Kind: 1<<32 + 1}, {Kind: 13, Value: 9, Stem: 4}}},
		{api.ErrForm, []api.Sign{
			{Kind: 1, Value: 4, Stem: 1}, {Kind: 1, Value: 4, N: 1}, {Kind: 1, Value: 9, Last: true}, {Kind: 1, Value: 4, Oblique: true}, {Kind: 2, Value: 3, Place: 1}, {Kind: 2, Value: 3, Color: true}, {Kind: 2, Value: 3, Acc: 1}, {Kind: 3, Value: 4}, {Kind: 3, Color: true},
			{Kind: 4, Value: 4}, {Kind: 4, Oblique: true, Last: true}, {Kind: 4, Place: 4, Stem: 1, Oblique: true, Last: true}, {Kind: 4, D: 1}, {Kind: 5, Mens: api.Mens{Max: 2, Mod: 2, Tem: 2, Pro: 2}, N: 1}, {Kind: 5, Value: 1}, {Kind: 6, N: 3, D: 2, Stroke: true}, {Kind: 6, N: 3, D: 2, Value: 1},
			{Kind: 7, Clef: api.Clef{Step: 0, Line: 3}, N: 1}, {Kind: 8, N: 1, D: 1}, {Kind: 9, N: 2}, {Kind: 9, Last: true}, {Kind: 10, N: 2, D: 1}, {Kind: 11, Value: 1}, {Kind: 11, Stroke: true}, {Kind: 12, Place: 1}, {Kind: 12, Clef: api.Clef{Line: 1}},
		}},
		{api.ErrMens, []api.Sign{{Kind: 5}, {Kind: 5, Mens: api.Mens{Max: 2, Mod: 2, Tem: 3, Pro: 4}}, {Kind: 5, Mens: api.Mens{Max: 1, Mod: 2, Tem: 3, Pro: 2}, Stroke: true}, {Kind: 5, Mens: api.Mens{Max: 2, Mod: math.MaxInt, Tem: 2, Pro: 2}}}},
		{api.ErrRange, []api.Sign{
			{Kind: 1}, {Kind: 1, Value: 9}, {Kind: 1, Value: -1}, {Kind: 1, Value: 4, Place: 13}, {Kind: 1, Value: 4, Place: -5}, {Kind: 1, Value: 4, Acc: 3}, {Kind: 1, Value: 4, Acc: -2}, {Kind: 1, Value: 4, Place: math.MinInt}, {Kind: 1, Value: math.MaxInt}, {Kind: 2}, {Kind: 2, Value: 9}, {Kind: 2, Value: math.MinInt},
			{Kind: 4, Place: 13}, {Kind: 4, Place: -5}, {Kind: 4, Acc: 3}, {Kind: 4, Acc: -2}, {Kind: 4, Stem: 4}, {Kind: 4, Stem: -1}, {Kind: 4, Stem: math.MaxInt}, {Kind: 6}, {Kind: 6, N: 1}, {Kind: 6, D: 1}, {Kind: 6, N: 101, D: 1}, {Kind: 6, N: 1, D: 101}, {Kind: 6, N: -1, D: 1}, {Kind: 6, N: math.MinInt, D: math.MaxInt},
			{Kind: 7}, {Kind: 7, Clef: api.Clef{Step: 1, Line: 3}}, {Kind: 7, Clef: api.Clef{Step: 5, Line: 3}}, {Kind: 7, Clef: api.Clef{Step: -1, Line: 3}}, {Kind: 7, Clef: api.Clef{Step: 3, Line: 6}}, {Kind: 7, Clef: api.Clef{Step: 4}}, {Kind: 7, Clef: api.Clef{Step: math.MinInt, Line: math.MaxInt}},
			{Kind: 8, N: 3}, {Kind: 8, N: -1}, {Kind: 8, N: math.MinInt}, {Kind: 10}, {Kind: 10, N: 1}, {Kind: 10, N: 5}, {Kind: 10, N: math.MaxInt},
		}},
	} {
		for _, s := range c.signs {
			if w, e := notate.Word(s); w != "" || e != c.want {
				t.Errorf("Word(%+v): %q %v, not %v", s, w, e, c.want)
			}
		}
	}
}

// P10.1: any int in each field of signs of each kind.
func TestWordOfAnyInts(t *testing.T) {
	for kind := -1; kind <= 14; kind++ {
		some := []api.Sign{{Kind: kind}}
		if kind >= 1 && kind <= 12 {
			some = someSigns(kind, 9)
		}
		for _, s := range some {
			for _, set := range setters() {
				for _, n := range anyInts() {
					x := s
					set(&x, n)
					word, want := "", sign.One(x)
					if want == api.OK {
						word = modelWord(x)
					}
					if w, e := notate.Word(x); w != word || e != want {
						t.Errorf("Word(%+v): %q %v, not %q %v", x, w, e, word, want)
					}
				}
			}
		}
	}
}

// P10.1: words that are no texts of signs, written out.
func TestSignErrors(t *testing.T) {
	for want, list := range map[api.Errno][]string{
		api.ErrForm: {
			"", " ", "M", "M04", "s4", "t4!~", "t4~!", "t~!4", "[2", "(22O)", "(22C.)", "@D3", "@c3", "@3", "@C", "@", "M4b#", "M4*b", "M4**", "M4bb", "M4^", "M4~", "M4!", "M4>", "m4", "MM4", "4M", "M 4", "M4 ", " M4", "M+4", "M-0", "M--4", "M-", "M-b", "M4-", "M4.",
			"r", "rr", "rB4", "rB*", "Br", "rb", "R", "rBB", "r4", "..", ". ", ".4", "t", "t*", "tb", "t^4", "t4*b", "t4^*", "t4~^", "t4!^", "t4^v", "t4^^", "t4~~", "t4!!", "t4v>", "T4", "tt4", "t4t", "t04", "t-0", "t-", "tur", "turns", "turn4", "Turn", "turn ", "urn", "tu4rn",
			"()", "(", ")", "(O", "O)", "O", "(O))", "((O)", "(O)||", "|(O)", "(O|)", "(O)|.", "(O).", "(o)", "(O..)", "(2O)", "(24O)", "(33)", "( O)", "(O )", "(33O.", "(23C)C", "|",
			"3", "/", "3/", "/2", "3/2/1", "3//2", "03/2", "3/02", "-3/2", "3/-2", "+3/2", "3/+2", "3 /2", "3/2|", "3:2", "3/2*", "1/x", "x/1", "@C3*", "@C03", "@C-3", "@CC3", "@C3.", "@E3", "@A3", "@H2", "@ 3", "C3", "&", "&&1", "&01", "&-1", "&1b", "& 1", "&b", "&+1", "1&",
			"[[", "[]", "[]2", "]", "]]2", "]02", "]-2", "]2]", "] 2", "]+2", "2]", "sig ", "Sig", "sign", "si", "sig1", "end", "part", "\"S4\"", "S4;", "S4\n", "S4\x00", "\xff", "é", "S4\xff", "\xffS4", "S\xe2\x99\xad4", "S4\u266d", "S\u0664", "(\u041e)", "\uff1a",
			"M1099511627777", "M-1099511627777", "M9223372036854775808", "M-9223372036854775808", "M18446744073709551616", "]18446744073709551618", "]4294967298000000000", "&99999999999999999999", "1099511627777/1", "1/1099511627777", "@C18446744073709551619",
		},
		api.ErrRange: {
			"M13", "M-5", "S100b*", "X-1099511627776", "Z1099511627776#", "t13", "t-5", "t13^!", "t99b*>~", "t1099511627776", "t-1099511627776!", "0/2", "2/0", "0/0", "101/2", "2/101", "1099511627776/1", "1/1099511627776",
			"@C0", "@C6", "@F0", "@G6", "@C1099511627776", "&3", "&10", "&1099511627776", "]0", "]1", "]5", "]10", "]1099511627776", "]4294967298", "]258", "M4294967296", "t256", "&4294967297",
		},
	} {
		for _, word := range list {
			if s, e := notate.Sign(word); s != (api.Sign{}) || e != want {
				t.Errorf("Sign(%q): %+v %v, not %v", word, s, e, want)
			}
		}
	}
	// Out of range and Oblique and Last: the error of sign.One names ErrRange first.
	if s, e := notate.Sign("t13~!"); s != (api.Sign{}) || e != api.ErrRange {
		t.Errorf("Sign(t13~!): %+v %v", s, e)
	}
}

// compareSign holds Sign against the model.
func compareSign(t *testing.T, word string) {
	want, f := modelSign(word)
	if s, e := notate.Sign(word); s != want || e != f {
		t.Fatalf("Sign(%.60q): %+v %v, not %+v %v", word, s, e, want, f)
	}
}

// P10.1: numbers of every form, in each place where a number stands.
func TestNumbers(t *testing.T) {
	type template struct {
		before, behind string
		low, high      int
	}
	templates := []template{
		{"M", "", -4, 12}, {"X", "b", -4, 12}, {"S", "n*", -4, 12}, {"t", "", -4, 12}, {"t", "#*^!", -4, 12}, {"t", "v~", -4, 12},
		{"", "/1", 1, 100}, {"7/", "", 1, 100}, {"@C", "", 1, 5}, {"@F", "", 1, 5}, {"@G", "", 1, 5}, {"&", "", 0, 2}, {"]", "", 2, 4},
	}
	list := []string{
		"", "-", "+", "--", "-0", "+0", "00", "000", "-00", "01", "04", "-01", "-04", "004", "+1", "+4", "--4", "-+4", "4-", " 4", "4 ", "- 4", "1.0", "1,0", "1e1", "0x1", "1_0", "٤", "４", "²", "1\x00",
		"1099511627777", "9999999999999", "10995116277760", "9223372036854775807", "9223372036854775808", "18446744073709551615", "18446744073709551616", "18446744073709551617", "18446744073709551620", strings.Repeat("9", 100000), strings.Repeat("0", 100000), "0" + strings.Repeat("4", 50),
	}
	for _, l := range templates {
		isPlace := l.low < 0
		for _, s := range list {
			for _, digits := range []string{s, "-" + s} {
				if got, e := notate.Sign(l.before + digits + l.behind); got != (api.Sign{}) || e != api.ErrForm {
					t.Errorf("Sign(%.40q): %+v %v", l.before+digits+l.behind, got, e)
				}
			}
		}
		for _, n := range anyInts() {
			word := l.before + strconv.Itoa(n) + l.behind
			want := api.OK
			if n < -1<<40 || n > 1<<40 || n < 0 && !isPlace {
				want = api.ErrForm
			} else if n < l.low || n > l.high {
				want = api.ErrRange
			}
			s, e := notate.Sign(word)
			if e != want || want != api.OK && s != (api.Sign{}) {
				t.Errorf("Sign(%q): %+v %v, not %v", word, s, e, want)
			}
			compareSign(t, word)
		}
	}
}

// P10.1: texts of signs with a byte left out, put twice, put in, or changed.
func TestNearlyTexts(t *testing.T) {
	var list []string
	for word := range known() {
		list = append(list, word)
	}
	read := 0
	for _, w := range list {
		for i := range len(w) + 1 {
			if i < len(w) {
				compareSign(t, w[:i]+w[i+1:])
				compareSign(t, w[:i+1]+w[i:])
			}
			if i+1 < len(w) {
				compareSign(t, w[:i]+w[i+1:i+2]+w[i:i+1]+w[i+2:])
			}
			for b := range 256 {
				one := string([]byte{byte(b)})
				compareSign(t, w[:i]+one+w[i:])
				if i < len(w) {
					compareSign(t, w[:i]+one+w[i+1:])
				}
				if _, e := notate.Sign(w[:i] + one + w[i:]); e == api.OK {
					read++
				}
			}
		}
		for _, v := range list {
			compareSign(t, w+v)
		}
	}
	if read < 100 {
		t.Errorf("only %d of the texts with a byte more are read", read)
	}
}

// texts are all texts of up to most of these letters.
func texts(letters string, most int) []string {
	all, last := []string{""}, []string{""}
	for range most {
		var next []string
		for _, s := range last {
			for i := range len(letters) {
				next = append(next, s+letters[i:i+1])
			}
		}
		all, last = append(all, next...), next
	}
	return all
}

// P10.1: all short texts of the bytes of the texts of each kind; how many are read is counted.
func TestShortTexts(t *testing.T) {
	for _, c := range []struct {
		before, letters string
		most, want      int
	}{
		{"", "MSrtm.[4-", 4, 2*2 + 2 + 1 + 1 + 2}, {"M", "014-b#n* ", 4, 7 * 4 * 2}, {"t4", "b#n*^v>~!", 5, 4 * 2 * 4 * 3}, {"t", "4-~!^b*", 6, 2 * 2 * 2 * 2 * 3}, {"(", "23OC.)|", 6, 32},
		{"", "0137/-+", 5, 9 + 2*36 + 144 + 2*3}, {"@", "CFGDc0156-", 4, 3 * 2}, {"&", "012345-+]&", 3, 3}, {"]", "012345-+]&", 3, 3}, {"", "turnsig", 4, 1 + 1},
	} {
		read := 0
		for _, s := range texts(c.letters, c.most) {
			compareSign(t, c.before+s)
			if _, e := notate.Sign(c.before + s); e == api.OK {
				read++
			}
		}
		if read != c.want {
			t.Errorf("%d of the texts of %q after %q are read, not %d", read, c.letters, c.before, c.want)
		}
	}
}

// P10.1: very long words are refused.
func TestLongWords(t *testing.T) {
	for _, s := range []string{"M", "4", "-", "r", "t", "(", ")", "O", "/", "@", "&", "]", "[", ".", "*", "~", "!", "b", "\xff", "23", "3/2", "turn", "sig", "M4"} {
		word := strings.Repeat(s, 100000)
		for _, w := range []string{word, "M4" + word, "t4" + word, "(" + word, "(O)" + word, "(O" + word + ")", "@C3" + word, word + "/2", "3/2" + word} {
			if got, e := notate.Sign(w); got != (api.Sign{}) || e != api.ErrForm {
				t.Errorf("Sign(%.20q), %d bytes: %+v %v", w, len(w), got, e)
			}
		}
	}
}

// P10.4: Letter of values and of other ints.
func TestLetter(t *testing.T) {
	want := map[int]string{1: "X", 2: "L", 3: "B", 4: "S", 5: "M", 6: "Q", 7: "F", 8: "Z"}
	for _, v := range append(anyInts(), -1, 0, 1, 2, 3, 4, 5, 6, 7, 8, 9, math.MinInt, math.MaxInt) {
		s, e := notate.Letter(v)
		if letter, is := want[v]; s != letter || is && e != api.OK || !is && e != api.ErrRange {
			t.Errorf("Letter(%d): %q %v, not %q", v, s, e, letter)
		}
	}
}

// P10.4: Value of every byte, of no byte and of longer texts.
func TestValue(t *testing.T) {
	want := map[string]int{"X": 1, "L": 2, "B": 3, "S": 4, "M": 5, "Q": 6, "F": 7, "Z": 8}
	list := slices.Concat(texts(letters+"xr ", 3), []string{"", "XL", "XLBSMQFZ", "LB", "Maxima", "M4", "é", "Х", "Ｘ", "X\x00", "\x00X", " X", "X\n", "4", strings.Repeat("X", 100000)})
	for b := range 256 {
		one := string([]byte{byte(b)})
		list = append(list, one, one+"X", "X"+one)
	}
	for _, s := range list {
		v, e := notate.Value(s)
		if n, is := want[s]; v != n || is && e != api.OK || !is && e != api.ErrForm {
			t.Errorf("Value(%.20q): %d %v, not %d", s, v, e, n)
		}
	}
}
