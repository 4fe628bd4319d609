package words_test

import (
	"slices"
	"strings"
	"testing"

	"tactus/api"
	"tactus/words"
)

func plain(at int, text string) api.Word { return api.Word{At: at, Text: text} }

func quoted(at int, text string) api.Word { return api.Word{At: at, Text: text, Quoted: true} }

func row(at int, list ...api.Word) api.Row { return api.Row{At: at, Words: list} }

func sameRows(a, b []api.Row) bool {
	return slices.EqualFunc(a, b, func(a, b api.Row) bool { return a.At == b.At && slices.Equal(a.Words, b.Words) })
}

// P2.1: texts without a fault.
func TestRows(t *testing.T) {
	for _, c := range []struct {
		text string
		want []api.Row
	}{
		{"part \"Cantus I\" ; top\nb4 s-2*", []api.Row{row(0, plain(0, "part"), quoted(5, "Cantus I")), row(22, plain(22, "b4"), plain(25, "s-2*"))}},
		{"", nil}, {" ; x", nil}, {"\n", nil}, {"\n\n\n", nil}, {"   ", nil}, {" \n  \n;", nil}, {";", nil}, {";;\"", nil},
		{"a\n b", []api.Row{row(0, plain(0, "a")), row(2, plain(3, "b"))}},
		{"a\n\n;x\n b", []api.Row{row(0, plain(0, "a")), row(6, plain(7, "b"))}},
		// The last line ends with the text; a line feed after it begins a line without words.
		{"a", []api.Row{row(0, plain(0, "a"))}}, {"a\n", []api.Row{row(0, plain(0, "a"))}}, {"\na", []api.Row{row(1, plain(1, "a"))}},
		{"  a   bc ", []api.Row{row(0, plain(2, "a"), plain(6, "bc"))}},
		// Quoted words at the beginning, in the middle and at the end of a line.
		{`"a b"`, []api.Row{row(0, quoted(0, "a b"))}}, {`"a" b`, []api.Row{row(0, quoted(0, "a"), plain(4, "b"))}}, {`b "a" c`, []api.Row{row(0, plain(0, "b"), quoted(2, "a"), plain(6, "c"))}},
		{`b "a"`, []api.Row{row(0, plain(0, "b"), quoted(2, "a"))}}, {`"a" "b"`, []api.Row{row(0, quoted(0, "a"), quoted(4, "b"))}}, {"\"a\"\n\"b\"", []api.Row{row(0, quoted(0, "a")), row(4, quoted(4, "b"))}},
		{`""`, []api.Row{row(0, quoted(0, ""))}}, {`"" ""`, []api.Row{row(0, quoted(0, ""), quoted(3, ""))}}, {`" "`, []api.Row{row(0, quoted(0, " "))}}, {` "~!"`, []api.Row{row(0, quoted(1, "~!"))}},
		// Comments after a blank, a plain word and a quoted word; a semicolon within quotes begins none.
		{"a ;b", []api.Row{row(0, plain(0, "a"))}}, {"a;b", []api.Row{row(0, plain(0, "a"))}}, {`"a";b`, []api.Row{row(0, quoted(0, "a"))}}, {`"";"`, []api.Row{row(0, quoted(0, ""))}}, {`"" ;"`, []api.Row{row(0, quoted(0, ""))}},
		{`"a;b";c`, []api.Row{row(0, quoted(0, "a;b"))}}, {`";"`, []api.Row{row(0, quoted(0, ";"))}}, {";a\"\n\"b\"", []api.Row{row(4, quoted(4, "b"))}},
		{"; \x00\x01\t\r\x7f\x80\xff é \"x\na", []api.Row{row(16, plain(16, "a"))}},
		{"!#:<~ \\", []api.Row{row(0, plain(0, "!#:<~"), plain(6, "\\"))}},
	} {
		if l, f := words.Rows(c.text); f != (api.Fault{}) || !sameRows(l, c.want) {
			t.Errorf("Rows(%q): %v %v, not %v", c.text, l, f, c.want)
		}
	}
}

// P2.1: faults.
func TestFaults(t *testing.T) {
	long := strings.Repeat("a", api.MaxLine+1)
	for _, c := range []struct {
		text string
		err  api.Errno
		at   int
	}{
		{`a"b"`, api.ErrForm, 1}, {`"a"b`, api.ErrForm, 0}, {`"a`, api.ErrForm, 0}, {"a é", api.ErrForm, 2},
		{`"`, api.ErrForm, 0}, {`x "`, api.ErrForm, 2}, {`a"`, api.ErrForm, 1}, {`"""`, api.ErrForm, 0}, {`""""`, api.ErrForm, 0}, {`"a""b"`, api.ErrForm, 0}, {`"a" "b" "`, api.ErrForm, 8},
		{`b "a"c`, api.ErrForm, 2}, {`"a;b`, api.ErrForm, 0}, {`"a;b"c`, api.ErrForm, 0}, {`"a ;" b" c`, api.ErrForm, 7},
		{"\"a\nb\"", api.ErrForm, 0}, {"\"a\n", api.ErrForm, 0}, {"a\nb \"c\nd\"", api.ErrForm, 4}, {"a\"\n", api.ErrForm, 1},
		{"\"a\tb\"", api.ErrForm, 0}, {"\"é\"", api.ErrForm, 0}, {"\"\x7f\"", api.ErrForm, 0}, {"x \"\x1f\" y", api.ErrForm, 2}, {"\"a\"\t", api.ErrForm, 0}, {"\"a\"\xff", api.ErrForm, 0},
		{"x\na\tb", api.ErrForm, 3}, {"a\r\nb", api.ErrForm, 1}, {"\t\"", api.ErrForm, 0}, {"a\x00", api.ErrForm, 1}, {" \x00;", api.ErrForm, 1}, {"ab\x7f", api.ErrForm, 2},
		{"a ;\n\x80", api.ErrForm, 4},
		// The first fault counts.
		{"a\t\"b", api.ErrForm, 1}, {"\"b\t", api.ErrForm, 0}, {"a\t\n" + long, api.ErrForm, 1}, {long + "\n\t", api.ErrLong, 0}, {"a\n" + long, api.ErrLong, 2}, {"a\n" + long + "\nb", api.ErrLong, 2},
		{"\t" + long, api.ErrLong, 0}, {"a\n;" + long, api.ErrLong, 2}, {" \n" + strings.Repeat(" ", api.MaxLine+1), api.ErrLong, 2},
	} {
		if l, f := words.Rows(c.text); f != (api.Fault{Err: c.err, At: c.at}) || len(l) > 0 {
			t.Errorf("Rows(%.30q): %v %v, not %v at %d", c.text, l, f, c.err, c.at)
		}
	}
}

// P2.1: a text and its lines may be as long as their limits, and no longer.
func TestRowsLimits(t *testing.T) {
	most := strings.Repeat("a", api.MaxLine)
	for _, line := range []string{most, `"` + most[2:] + `"`, ";" + most[1:], strings.Repeat(" ", api.MaxLine-1) + "a", strings.Repeat(" ", api.MaxLine), ";" + strings.Repeat("\xff", api.MaxLine-1)} {
		for _, before := range []string{"", "\n", "x \n"} {
			for _, after := range []string{"", "\n", "\ny"} {
				if _, f := words.Rows(before + line + after); f != (api.Fault{}) {
					t.Errorf("%q, %.5q of %d bytes, %q: %v", before, line, len(line), after, f)
				}
				if l, f := words.Rows(before + line + ";" + after); f != (api.Fault{Err: api.ErrLong, At: len(before)}) || len(l) > 0 {
					t.Errorf("%q, %.5q and one more byte, %q: %v", before, line, after, f)
				}
			}
		}
	}
	// 19 lines of 1001 bytes, and one of 981
	text := strings.Repeat(most+"\n", 19) + most[:981]
	if l, f := words.Rows(text); len(text) != api.MaxText || f != (api.Fault{}) || len(l) != 20 {
		t.Errorf("a text of %d bytes: %d rows, %v", len(text), len(l), f)
	}
	tooLong := api.Fault{Err: api.ErrLong, At: api.MaxText}
	for _, longer := range []string{text + "a", text + "\n", text + ";", "\t" + text, strings.Repeat("\n", api.MaxText+1), strings.Repeat("\x00", api.MaxText+1), strings.Repeat("a", 1<<22)} {
		if l, f := words.Rows(longer); f != tooLong || len(l) > 0 {
			t.Errorf("a text of %d bytes: %d rows, %v", len(longer), len(l), f)
		}
	}
	if l, f := words.Rows(strings.Repeat("a\n", api.MaxText/2)); f != (api.Fault{}) || len(l) != api.MaxText/2 || l[9999].At != 19998 {
		t.Errorf("many lines: %d rows, %v", len(l), f)
	}
	if l, f := words.Rows(strings.Repeat("a ", api.MaxLine/2)); f != (api.Fault{}) || len(l) != 1 || len(l[0].Words) != api.MaxLine/2 {
		t.Errorf("many words: %d rows, %v", len(l), f)
	}
	if l, f := words.Rows(strings.Repeat("\n", api.MaxText)); f != (api.Fault{}) || len(l) != 0 {
		t.Errorf("many line feeds: %d rows, %v", len(l), f)
	}
}

// P2.1: each byte in each surrounding.
func TestRowsBytes(t *testing.T) {
	for b := range 256 {
		s := string([]byte{byte(b)})
		isWord := b > 32 && b < 127 && b != ';' && b != '"'
		ends := b == ' ' || b == ';' || b == '\n'
		quotable := b >= 32 && b < 127 && b != '"'
		for _, c := range []struct {
			text string
			good bool
			at   int
		}{
			{s, isWord || ends, 0}, {"a" + s + " ", isWord || ends, 1}, {"a " + s, isWord || ends, 2}, {`"a"` + s, ends, 0}, {`"` + s + `"`, quotable, 0}, {";" + s, true, 0},
		} {
			want := api.Fault{}
			if !c.good {
				want = api.Fault{Err: api.ErrForm, At: c.at}
			}
			if b == '"' && c.text == `"""` {
				want = api.Fault{Err: api.ErrForm, At: 0}
			}
			if _, f := words.Rows(c.text); f != want {
				t.Fatalf("Rows(%q): %v, not %v", c.text, f, want)
			}
		}
		if l, f := words.Rows("a" + s + "b"); isWord && (f != (api.Fault{}) || !sameRows(l, []api.Row{row(0, plain(0, "a"+s+"b"))})) {
			t.Fatalf("byte %d within a word: %v %v", b, l, f)
		}
		if l, f := words.Rows(`"a` + s + `b"`); quotable && (f != (api.Fault{}) || !sameRows(l, []api.Row{row(0, quoted(0, "a"+s+"b"))})) {
			t.Fatalf("byte %d within a quoted word: %v %v", b, l, f)
		}
	}
}

// R4: no two rows share memory.
func TestOwnMemory(t *testing.T) {
	const text = "a b\nc \"d\"\ne f g\nh"
	l, _ := words.Rows(text)
	want, _ := words.Rows(text)
	for i := range l {
		_ = append(l[i].Words, plain(0, "x"))
		if !sameRows(l, want) {
			t.Fatalf("more words in row %d: %v", i, l)
		}
	}
	l[0].Words[0].Text = "x"
	if again, _ := words.Rows(text); !sameRows(again, want) {
		t.Errorf("a changed result changed the next one: %v", again)
	}
}
