package words_test

import (
	"strings"
	"testing"

	"tactus/words"
)

// P2.3: Name.
func TestName(t *testing.T) {
	for s, want := range map[string]bool{
		"a": true, "z": true, "a-1": true, "a-": true, "a--": true, "a0": true, "z9": true, "cantus-2": true, strings.Repeat("a", 20): true, "a-------------------": true,
		"": false, "1a": false, "-": false, "-a": false, "0": false, strings.Repeat("a", 21): false, strings.Repeat("a", 100000): false,
		"A": false, "aB": false, "a_": false, "a b": false, " a": false, "a\n": false, "é": false, "aé": false, "a.": false, "a/": false, "a:": false, "a`": false, "a{": false,
	} {
		if words.Name(s) != want {
			t.Errorf("Name(%q): %v", s, !want)
		}
	}
}

// P2.3: Number.
func TestNumber(t *testing.T) {
	for s, want := range map[string]int{"0": 0, "1": 1, "9": 9, "10": 10, "100": 100, "4096": 4096, "1099511627775": 1<<40 - 1, "1099511627776": 1 << 40} {
		if n, is := words.Number(s); n != want || !is {
			t.Errorf("Number(%q): %d %v, not %d", s, n, is, want)
		}
		if n, is := words.Signed(s); n != want || !is {
			t.Errorf("Signed(%q): %d %v, not %d", s, n, is, want)
		}
		if n, is := words.Signed("-" + s); n != -want || is != (want > 0) {
			t.Errorf("Signed(-%q): %d %v, not %d", s, n, is, -want)
		}
	}
	for _, s := range []string{
		"", "00", "007", "01", "+1", "+4", "--1", "1-", "-", "1x", "x1", "1 ", " 1", "1.0", "1e3", "0x1", "1_0", "1\n", "é", "٣", "\xff", "/", ":", "1/", "1:",
		"1099511627777", "9999999999999", "10995116277760", "99999999999999999999", "18446744073709551616", "18446744073709551617", strings.Repeat("9", 100000), "0" + strings.Repeat("9", 20), "99999999999999999999x",
	} {
		if n, is := words.Number(s); n != 0 || is {
			t.Errorf("Number(%.30q): %d %v", s, n, is)
		}
		for _, signed := range []string{s, "-" + s} {
			if n, is := words.Signed(signed); (n != 0 || is) && s != "" {
				t.Errorf("Signed(%.30q): %d %v", signed, n, is)
			}
		}
	}
	for _, s := range []string{"-1", "-0", "-"} {
		if n, is := words.Number(s); n != 0 || is {
			t.Errorf("Number(%q): %d %v", s, n, is)
		}
	}
}

// P2.3: each byte in names and numbers.
func TestSmallBytes(t *testing.T) {
	for b := range 256 {
		letter, digit := b >= 'a' && b <= 'z', b >= '0' && b <= '9'
		s := string([]byte{byte(b)})
		if words.Name(s) != letter || words.Name("a"+s) != (letter || digit || b == '-') {
			t.Fatalf("names of byte %d", b)
		}
		if n, is := words.Number(s); is != digit || digit && n != b-'0' {
			t.Fatalf("Number(%q): %d %v", s, n, is)
		}
		if n, is := words.Number("1" + s + "1"); is != digit || digit && n != 101+10*(b-'0') {
			t.Fatalf("Number(1%q1): %d %v", s, n, is)
		}
		if n, is := words.Signed(s + "1"); is != (digit && b != '0' || b == '-') || b == '-' && n != -1 {
			t.Fatalf("Signed(%q1): %d %v", s, n, is)
		}
	}
}

// P2.4: Pair.
func TestPair(t *testing.T) {
	for _, c := range []struct {
		s           string
		by          byte
		left, right string
		is          bool
	}{
		{"3/2", '/', "3", "2", true}, {"3/2/1", '/', "", "", false}, {"/", '/', "", "", true}, {"32", '/', "", "", false}, {"", '/', "", "", false}, {"//", '/', "", "", false},
		{"3/", '/', "3", "", true}, {"/2", '/', "", "2", true}, {"a:b/c", ':', "a", "b/c", true}, {"a\x00b", 0, "a", "b", true}, {"", 0, "", "", false}, {"\xff", 255, "", "", true},
		// A byte, not a character.
		{"aéb", 0xc3, "a", "\xa9b", true}, {"é\xc3", 0xc3, "", "", false}, {"aéb", 0xe9, "", "", false}, {"a\n", '\n', "a", "", true},
	} {
		if a, b, is := words.Pair(c.s, c.by); a != c.left || b != c.right || is != c.is {
			t.Errorf("Pair(%q, %q): %q %q %v", c.s, c.by, a, b, is)
		}
	}
	for b := range 256 {
		for other := range 256 {
			s := string([]byte{'x', 'y', byte(b), 'z', 'x'})
			a, z, is := words.Pair(s, byte(other))
			if want := strings.Count(s, string([]byte{byte(other)})) == 1; is != want || want && a+string([]byte{byte(other)})+z != s || !want && a+z != "" {
				t.Errorf("Pair(%q, %d): %q %q %v", s, other, a, z, is)
			}
		}
	}
}
