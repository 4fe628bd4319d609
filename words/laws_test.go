package words_test

import (
	"regexp"
	"slices"
	"strings"
	"testing"

	"tactus/api"
	"tactus/words"
)

// texts are all texts of up to most of these letters.
func texts(letters string, most int) []string {
	all, last := []string{""}, []string{""}
	for range most {
		var next []string
		for _, s := range last {
			for i := range len(letters) {
				next = append(next, s+letters[i:i+1])
			}
		}
		all, last = append(all, next...), next
	}
	return all
}

var (
	plainForm   = regexp.MustCompile(`^[!#-:<-~]+`)
	quotedForm  = regexp.MustCompile(`^"([ !#-~]*)"(?: |;|$)`)
	nothingForm = regexp.MustCompile(`^(?: +|(?s:;.*))`)
)

// model reads a short text another way than the program.
func model(text string) (rows []api.Row, fault api.Fault) {
	at := 0
	for _, line := range strings.Split(text, "\n") {
		var list []api.Word
		for i := 0; i < len(line); {
			if s := nothingForm.FindString(line[i:]); s != "" {
				i += len(s)
			} else if s := plainForm.FindString(line[i:]); s != "" {
				list = append(list, plain(at+i, s))
				i += len(s)
			} else if m := quotedForm.FindStringSubmatch(line[i:]); m != nil && (i == 0 || line[i-1] == ' ') {
				list = append(list, quoted(at+i, m[1]))
				i += len(m[1]) + 2
			} else {
				return nil, api.Fault{Err: api.ErrForm, At: at + i}
			}
		}
		if list != nil {
			rows = append(rows, row(at, list...))
		}
		at += len(line) + 1
	}
	return rows, api.Fault{}
}

// P2.1: all short texts of bytes of every kind.
func TestModel(t *testing.T) {
	faults, read := 0, 0
	for _, text := range texts("a\"; \n\xff", 7) {
		want, fault := model(text)
		if l, f := words.Rows(text); f != fault || !sameRows(l, want) {
			t.Fatalf("Rows(%q): %v %v, not %v %v", text, l, f, want, fault)
		}
		if fault.Err != api.OK {
			faults++
		} else {
			read++
		}
	}
	if faults < 1000 || read < 1000 {
		t.Errorf("only %d faults and %d texts that are read", faults, read)
	}
}

// manyRows are lists of up to three rows of up to three words.
func manyRows() [][]api.Row {
	some := []api.Word{plain(0, "a"), plain(0, "b4-~!#"), quoted(0, ""), quoted(0, "c;\\ d ")}
	var rows []api.Row
	lists := [][]api.Word{nil}
	for range 3 {
		var next [][]api.Word
		for _, l := range lists {
			for _, w := range some {
				next = append(next, append(slices.Clone(l), w))
			}
		}
		for _, l := range next {
			rows = append(rows, row(0, l...))
		}
		lists = next
	}
	many := [][]api.Row{nil}
	for _, a := range rows {
		many = append(many, []api.Row{a})
		for _, b := range rows {
			many = append(many, []api.Row{a, b}, []api.Row{b, a, a})
		}
	}
	return many
}

// placed is a copy of the rows with the offsets that they have if they are written.
func placed(rows []api.Row) (copies []api.Row) {
	at := 0
	for _, r := range rows {
		copied := api.Row{At: at}
		for _, w := range r.Words {
			w.At = at
			copied.Words = append(copied.Words, w)
			at += len(w.Text) + 1
			if w.Quoted {
				at += 2
			}
		}
		copies = append(copies, copied)
	}
	return copies
}

// P2.5: rows are read as they were written.
func TestReadBack(t *testing.T) {
	for _, rows := range manyRows() {
		text, e := words.Text(rows)
		if e != api.OK {
			t.Fatalf("Text(%v): %v", rows, e)
		}
		if l, f := words.Rows(text); f != (api.Fault{}) || !sameRows(l, placed(rows)) {
			t.Fatalf("Rows(%q): %v %v, not %v", text, l, f, placed(rows))
		}
	}
	most := []api.Row{row(0, plain(0, strings.Repeat("a", api.MaxLine)))}
	most = append(slices.Repeat(most, 19), row(0, quoted(0, strings.Repeat(" ", 978))))
	text, e := words.Text(most)
	if l, f := words.Rows(text); e != api.OK || len(text) != api.MaxText || f != (api.Fault{}) || !sameRows(l, placed(most)) {
		t.Errorf("a text of %d bytes: %v %v", len(text), e, f)
	}
}

// bare are the words of the rows, row by row, without offsets.
func bare(rows []api.Row) (list [][]api.Word) {
	for _, r := range rows {
		var words []api.Word
		for _, w := range r.Words {
			w.At = 0
			words = append(words, w)
		}
		list = append(list, words)
	}
	return list
}

func sameWords(a, b []api.Row) bool { return slices.EqualFunc(bare(a), bare(b), slices.Equal) }

// P2.6: what is read, written and read again has the same words, and is written the same again.
func TestWrittenBack(t *testing.T) {
	for _, text := range texts("a\"; \n\t", 7) {
		rows, f := words.Rows(text)
		if f.Err != api.OK {
			continue
		}
		first, e := words.Text(rows)
		again, f := words.Rows(first)
		if e != api.OK || f.Err != api.OK || !sameWords(rows, again) {
			t.Fatalf("%q is written as %q %v, and read as %v %v", text, first, e, again, f)
		}
		if second, e := words.Text(again); second != first || e != api.OK {
			t.Fatalf("%q is written as %q, then as %q %v", text, first, second, e)
		}
	}
}

// P2.7: more blanks between words and at the ends of lines, comments, and lines without words do not count.
func TestAdded(t *testing.T) {
	type change func(line string) string
	changes := map[string]change{
		"blanks before":  func(line string) string { return "   " + line },
		"blanks after":   func(line string) string { return line + "  " },
		"blanks between": func(line string) string { return strings.Join(apart(line), "    ") },
		"comment after":  func(line string) string { return line + "; c \"\x00\t\xff" },
		"comment line":   func(line string) string { return "; \"x\n" + line + "\n ;\r" },
		"empty lines":    func(line string) string { return "\n \n" + line + "\n\n" },
	}
	for _, rows := range manyRows() {
		text, _ := words.Text(rows)
		want, _ := words.Rows(text)
		for name, do := range changes {
			var lines []string
			for _, line := range strings.Split(strings.TrimSuffix(text, "\n"), "\n") {
				lines = append(lines, do(line))
			}
			changed := strings.Join(lines, "\n")
			if l, f := words.Rows(changed); f != (api.Fault{}) || !sameWords(l, want) {
				t.Fatalf("%s: %q: %v %v, not %v", name, changed, l, f, want)
			}
		}
	}
}

// apart are the written words of a line.
func apart(line string) []string {
	return regexp.MustCompile(`"[^"]*"|[^ "]+`).FindAllString(line, -1)
}

// P2.8: the rows of two texts with a line feed between are the rows of both.
func TestJoined(t *testing.T) {
	good := func(text string) bool {
		_, f := words.Rows(text)
		return f.Err == api.OK
	}
	list := slices.DeleteFunc(texts("a\"; \n", 4), func(text string) bool { return !good(text) })
	list = append(list, `p "q r" ;s`, "\n\nx\n \"\"", strings.Repeat("a", api.MaxLine))
	for _, a := range list {
		for _, b := range list {
			want, _ := words.Rows(a)
			more, _ := words.Rows(b)
			for _, r := range more {
				moved := api.Row{At: r.At + len(a) + 1}
				for _, w := range r.Words {
					w.At += len(a) + 1
					moved.Words = append(moved.Words, w)
				}
				want = append(want, moved)
			}
			if l, f := words.Rows(a + "\n" + b); f != (api.Fault{}) || !sameRows(l, want) {
				t.Fatalf("%.20q and %.20q: %v %v, not %v", a, b, l, f, want)
			}
		}
	}
	half := strings.Repeat(strings.Repeat("a", 999)+"\n", 10)[1:]
	if l, f := words.Rows(half + ";\n" + half); f != (api.Fault{}) || len(l) != 20 {
		t.Errorf("a text of %d bytes: %d rows, %v", 2*len(half)+2, len(l), f)
	}
	if l, f := words.Rows(half + ";;\n" + half); f != (api.Fault{Err: api.ErrLong, At: api.MaxText}) || len(l) != 0 {
		t.Errorf("a text of %d bytes: %d rows, %v", 2*len(half)+3, len(l), f)
	}
}
