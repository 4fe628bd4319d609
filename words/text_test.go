package words_test

import (
	"slices"
	"strings"
	"testing"

	"tactus/api"
	"tactus/words"
)

// P2.2: rows that can be written.
func TestText(t *testing.T) {
	for _, c := range []struct {
		rows []api.Row
		want string
	}{
		{nil, ""}, {[]api.Row{}, ""}, {[]api.Row{row(0, plain(0, "a"))}, "a\n"},
		{[]api.Row{row(0, plain(0, "part"), quoted(5, "Cantus I")), row(22, plain(22, "b4"), plain(25, "s-2*"))}, "part \"Cantus I\"\nb4 s-2*\n"},
		{[]api.Row{row(0, quoted(0, "a b"))}, "\"a b\"\n"}, {[]api.Row{row(0, quoted(0, ""), quoted(0, " "), quoted(0, ";"), quoted(0, "a"))}, "\"\" \" \" \";\" \"a\"\n"},
		// Offsets do not matter.
		{[]api.Row{row(7, plain(-3, "a"), quoted(7, "b")), row(-1, plain(1<<62, "c"))}, "a \"b\"\nc\n"},
	} {
		if s, e := words.Text(c.rows); s != c.want || e != api.OK {
			t.Errorf("Text(%v): %q %v, not %q", c.rows, s, e, c.want)
		}
	}
}

// P2.2: rows that cannot be written, and the first error.
func TestTextErrors(t *testing.T) {
	long := strings.Repeat("a", api.MaxLine+1)
	for _, c := range []struct {
		rows []api.Row
		want api.Errno
	}{
		{[]api.Row{{}}, api.ErrForm}, {[]api.Row{row(0, plain(0, "a")), {At: 2, Words: []api.Word{}}}, api.ErrForm}, {[]api.Row{row(0, plain(0, "a b"))}, api.ErrForm},
		{[]api.Row{row(0, plain(0, ""))}, api.ErrForm}, {[]api.Row{row(0, plain(0, "a;"))}, api.ErrForm}, {[]api.Row{row(0, plain(0, `"a"`))}, api.ErrForm}, {[]api.Row{row(0, plain(0, "a\n"))}, api.ErrForm},
		{[]api.Row{row(0, quoted(0, `"`))}, api.ErrForm}, {[]api.Row{row(0, quoted(0, "a\nb"))}, api.ErrForm}, {[]api.Row{row(0, quoted(0, "é"))}, api.ErrForm},
		{[]api.Row{row(0, plain(0, "a"), plain(0, ""), plain(0, "b"))}, api.ErrForm},
		{[]api.Row{row(0, plain(0, long))}, api.ErrLong}, {[]api.Row{row(0, quoted(0, long))}, api.ErrLong},
		// A word of the row counts before its length, an earlier row before a later one.
		{[]api.Row{row(0, plain(0, long), plain(0, ""))}, api.ErrForm}, {[]api.Row{row(0, plain(0, long+"\t"))}, api.ErrForm},
		{[]api.Row{row(0, plain(0, long)), {}}, api.ErrLong}, {[]api.Row{{}, row(0, plain(0, long))}, api.ErrForm}, {[]api.Row{row(0, plain(0, "a")), row(0, plain(0, long)), row(0, plain(0, ""))}, api.ErrLong},
	} {
		if s, e := words.Text(c.rows); s != "" || e != c.want {
			t.Errorf("Text(%.60v): %q %v, not %v", c.rows, s, e, c.want)
		}
	}
}

// P2.2: a line has at most MaxLine bytes without its line feed, a text MaxText with all of them.
func TestTextLimits(t *testing.T) {
	most := strings.Repeat("a", api.MaxLine)
	for _, c := range []struct {
		rows []api.Row
		want api.Errno
	}{
		{[]api.Row{row(0, plain(0, most))}, api.OK}, {[]api.Row{row(0, plain(0, most+"a"))}, api.ErrLong},
		{[]api.Row{row(0, quoted(0, most[2:]))}, api.OK}, {[]api.Row{row(0, quoted(0, most[1:]))}, api.ErrLong},
		{[]api.Row{row(0, plain(0, most[:500]), plain(0, most[:499]))}, api.OK}, {[]api.Row{row(0, plain(0, most[:500]), plain(0, most[:500]))}, api.ErrLong},
		{[]api.Row{row(0, slices.Repeat([]api.Word{quoted(0, "")}, 333)...)}, api.OK}, {[]api.Row{row(0, slices.Repeat([]api.Word{quoted(0, "")}, 334)...)}, api.ErrLong},
		{[]api.Row{row(0, slices.Repeat([]api.Word{plain(0, "a")}, 500)...)}, api.OK}, {[]api.Row{row(0, slices.Repeat([]api.Word{plain(0, "a")}, 501)...)}, api.ErrLong},
		{slices.Repeat([]api.Row{row(0, plain(0, "a"))}, api.MaxText/2), api.OK}, {slices.Repeat([]api.Row{row(0, plain(0, "a"))}, api.MaxText/2+1), api.ErrLong},
		{append(slices.Repeat([]api.Row{row(0, plain(0, most))}, 19), row(0, plain(0, most[:980]))), api.OK},
		{append(slices.Repeat([]api.Row{row(0, plain(0, most))}, 19), row(0, plain(0, most[:981]))), api.ErrLong},
		// The text is too long before the next row is.
		{append(slices.Repeat([]api.Row{row(0, plain(0, most))}, 20), api.Row{}), api.ErrLong}, {append(slices.Repeat([]api.Row{row(0, plain(0, most))}, 19), api.Row{}), api.ErrForm},
		// A row whose words cannot be written counts before a text that is too long with it.
		{append(slices.Repeat([]api.Row{row(0, plain(0, most))}, 19), row(0, plain(0, most), plain(0, ""))), api.ErrForm},
	} {
		s, e := words.Text(c.rows)
		if e != c.want || (s == "") != (e != api.OK) || len(s) > api.MaxText {
			t.Errorf("Text of %d rows, the first of %d words: %d bytes, %v, not %v", len(c.rows), len(c.rows[0].Words), len(s), e, c.want)
		}
	}
}

// P2.2: each byte in plain and in quoted words.
func TestTextBytes(t *testing.T) {
	for b := range 256 {
		for _, text := range []string{string([]byte{byte(b)}), string([]byte{'a', byte(b)}), string([]byte{byte(b), 'a'})} {
			for _, isQuoted := range []bool{false, true} {
				good := b > 32 && b < 127 && b != '"' && b != ';' || isQuoted && (b == ' ' || b == ';')
				want, e := "", api.ErrForm
				if good && isQuoted {
					want, e = `"`+text+"\"\n", api.OK
				} else if good {
					want, e = text+"\n", api.OK
				}
				if s, f := words.Text([]api.Row{row(0, api.Word{Text: text, Quoted: isQuoted})}); s != want || f != e {
					t.Fatalf("the word %q, quoted %v: %q %v", text, isQuoted, s, f)
				}
			}
		}
	}
}

// R4: rows are not changed.
func TestTextKeeps(t *testing.T) {
	rows := []api.Row{row(3, plain(9, "a"), quoted(1, "b c")), row(2, plain(0, "d"))}
	want := []api.Row{row(3, plain(9, "a"), quoted(1, "b c")), row(2, plain(0, "d"))}
	words.Text(rows)
	if !sameRows(rows, want) {
		t.Errorf("Text changed the rows to %v", rows)
	}
}
