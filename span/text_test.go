package span_test

import (
	"strings"
	"testing"

	"tactus/api"
	"tactus/span"
)

// P1.6: Text.
func TestText(t *testing.T) {
	for _, c := range []struct {
		time api.Time
		want string
	}{
		{over(0, 1), "0"}, {over(4, 1), "4"}, {over(3, 2), "3/2"}, {over(10, 3), "10/3"}, {over(1, 100), "1/100"},
		{over(api.MaxNum, 1), "1099511627776"}, {over(1, api.MaxDen), "1/1048576"}, {over(api.MaxNum-1, api.MaxDen), "1099511627775/1048576"},
	} {
		if s, e := span.Text(c.time); s != c.want || e != api.OK {
			t.Errorf("Text(%v): %q %v, not %q", c.time, s, e, c.want)
		}
	}
	for _, x := range anyTimes() {
		want := span.Check(x)
		if s, e := span.Text(x); e != want || (s == "") != (want != api.OK) {
			t.Errorf("Text(%v): %q %v, not %v", x, s, e, want)
		}
	}
}

// P1.6: texts that Parse reads.
func TestParse(t *testing.T) {
	for s, want := range map[string]api.Time{
		"0": over(0, 1), "4": over(4, 1), "1": over(1, 1), "10": over(10, 1), "3/2": over(3, 2), "1/10": over(1, 10), "100/99": over(100, 99),
		"1099511627776": over(api.MaxNum, 1), "1/1048576": over(1, api.MaxDen), "1099511627775/1048576": over(api.MaxNum-1, api.MaxDen), "4294967297": over(1<<32+1, 1),
	} {
		if x, e := span.Parse(s); x != want || e != api.OK {
			t.Errorf("Parse(%q): %v %v, not %v", s, x, e, want)
		}
	}
}

// P1.6: texts that Parse refuses, and why: their form, then their size, then their terms.
func TestParseErrors(t *testing.T) {
	digits := strings.Repeat("9", 100000)
	for want, texts := range map[api.Errno][]string{
		api.ErrForm: {
			"", "/", "//", "x", "-1", "+1", " 1", "1 ", "1\n", "1.5", "0x1", "1_0", "1e3", "04", "00", "01/2", "1/02", "1/", "/2", "1//2", "1/2/3", "1/2/", "1/-2", "1 /2", "1/ 2",
			"\x00", "1\x00", "\xff", "1\xff", "1/\xff", "1/2\x80", "٣", "１", "1/２", "1⁄2", "½", "1\u00a0",
			"99999999999999999999999999/x", digits + "x", digits + "/", digits + "/0" + digits, "0" + digits, "/1048577", "/" + digits,
			"4/0", "4/1", "0/0", "0/1", "0/2", "6/4", "2/2", "1099511627776/1048576",
		},
		api.ErrLong: {
			"1099511627777", "1/1048577", "2/1048578", "1099511627777/0", "1099511627777/1", "1099511627778/2", "0/1048577",
			// These would be small if their numbers wrapped around.
			"18446744073709551616", "18446744073709551617", "1/4294967298", "1/18446744073709551618", "99999999999999999999999999",
			digits, "1/" + digits, digits + "/" + digits,
		},
	} {
		for _, s := range texts {
			if x, e := span.Parse(s); e != want || x != (api.Time{}) {
				t.Errorf("Parse(%.40q): %v %v, not %v", s, x, e, want)
			}
		}
	}
}

// P1.6: one byte is the text of a time if it is a digit, and between two digits only a digit or / may stand.
func TestParseBytes(t *testing.T) {
	for b := 0; b < 256; b++ {
		digit := b >= '0' && b <= '9'
		if x, e := span.Parse(string([]byte{byte(b)})); digit != (e == api.OK) || digit && x != over(b-'0', 1) {
			t.Errorf("byte %d: %v %v", b, x, e)
		}
		if x, e := span.Parse(string([]byte{'1', byte(b), '9'})); (digit || b == '/') != (e == api.OK) {
			t.Errorf("byte %d in between: %v %v", b, x, e)
		}
	}
}
