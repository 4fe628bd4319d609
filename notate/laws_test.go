package notate_test

import (
	"slices"
	"strings"
	"testing"

	"tactus/api"
	"tactus/notate"
	"tactus/sign"
	"tactus/words"
)

// P10.1, P10.5, P10.8: every valid sign has a text of its own, which is one word, and is read back.
func TestEverySign(t *testing.T) {
	want := []int{0, 8 * 17 * 4 * 2, 8, 1, 17 * 4 * 2 * 4 * 3, 16 * 2, 100 * 100, 3 * 5, 3, 1, 3, 1, 1}
	of := map[string]api.Sign{}
	for kind := 1; kind <= 12; kind++ {
		all := everySign(kind)
		if len(all) != want[kind] {
			t.Errorf("%d signs of the kind %d, not %d", len(all), kind, want[kind])
		}
		for _, s := range all {
			w, e := notate.Word(s)
			if w != modelWord(s) || e != api.OK {
				t.Errorf("Word(%+v): %q %v, not %q", s, w, e, modelWord(s))
			}
			if got, e := notate.Sign(w); got != s || e != api.OK {
				t.Errorf("Sign(%q): %+v %v, not %+v", w, got, e, s)
			}
			if other, is := of[w]; is {
				t.Errorf("%q is the text of %+v and of %+v", w, other, s)
			}
			of[w] = s
			if rows, f := words.Rows(w); f != (api.Fault{}) || len(rows) != 1 || !slices.Equal(rows[0].Words, []api.Word{{Text: w}}) {
				t.Errorf("%q is not one word: %v %v", w, rows, f)
			}
			if w == "end" || w == "part" {
				t.Errorf("%+v is written as %q", s, w)
			}
		}
	}
}

// P10.5: what is read is written as the word that was read.
func TestWrittenBack(t *testing.T) {
	read := 0
	for _, c := range []struct {
		letters string
		most    int
	}{{"MXrtb*-014", 5}, {"(23OC.)|", 5}, {"t4~!^b*", 6}, {"/0123", 5}, {"@CFG&]123[.", 4}, {"turnsig", 4}} {
		for _, word := range texts(c.letters, c.most) {
			s, e := notate.Sign(word)
			if e != api.OK {
				continue
			}
			read++
			if w, e := notate.Word(s); w != word || e != api.OK {
				t.Errorf("Word(Sign(%q)): %q %v", word, w, e)
			}
		}
	}
	if read < 300 {
		t.Errorf("only %d words are read", read)
	}
}

// manyParts are valid parts: all of up to four signs of some words, and longer ones.
func manyParts() []api.Part {
	all, last := []api.Part{part()}, [][]string{nil}
	for range 4 {
		var next [][]string
		for _, l := range last {
			for _, word := range []string{"S4", "S4*", ".", "t4", "t4!", "(O)", "[", "rS"} {
				next = append(next, append(slices.Clone(l), word))
			}
		}
		for _, l := range next {
			all = append(all, part(l...))
		}
		last = next
	}
	for _, many := range []int{15, 16, 17, 32, 33, 399, 400} {
		all = append(all, part(repeated(many, ".")...), part(repeated(many, "(33O.)|")...), part(repeated(many, "100/100")...), part(append(repeated(many-1, "t-4b*^~"), "t-4b*^!")...))
	}
	var every []string
	for kind := 1; kind <= 12; kind++ {
		for _, s := range someSigns(kind, 20) {
			if kind != api.Tied {
				every = append(every, modelWord(s))
			}
		}
	}
	for _, name := range []string{"a", "b", "a-", "end", "part", "zzzzzzzzzzzzzzzzzzzz"} {
		p := part(every...)
		p.Name = name
		all = append(all, p, api.Part{Name: name, Signs: p.Signs[1:]})
	}
	return slices.DeleteFunc(all, func(p api.Part) bool {
		e, _ := sign.Check(p)
		return e != api.OK
	})
}

// P10.2, P10.3, P10.6, P10.8: parts have different texts and are read back from them; what is read has the same text.
func TestPartsReadBack(t *testing.T) {
	of := map[string]api.Part{}
	for _, p := range manyParts() {
		text, e := notate.Text(p)
		if text != modelText(p) || e != api.OK {
			t.Fatalf("Text(%v): %q %v, not %q", p, text, e, modelText(p))
		}
		got, f := notate.Parse(text)
		if !samePart(got, p) || f != (api.Fault{}) {
			t.Fatalf("Parse(%q): %v %v, not %v", text, got, f, p)
		}
		if again, e := notate.Text(got); again != text || e != api.OK {
			t.Fatalf("the text %q became %q %v", text, again, e)
		}
		if other, is := of[text]; is && !samePart(other, p) {
			t.Fatalf("%v and %v have the same text", other, p)
		}
		of[text] = p
	}
	if len(of) < 1500 {
		t.Errorf("only %d texts", len(of))
	}
}

// laid lays words out in rows: after the word i a row ends if breaks has the bit i.
func laid(list []string, breaks int, blank, feed string) string {
	text := "part a" + feed
	for i, word := range list {
		text += word
		if breaks&(1<<i) != 0 || i == len(list)-1 {
			text += feed
		} else {
			text += blank
		}
	}
	return text + "end"
}

// P10.6, P10.7: all divisions of signs into rows, with comments and more blanks, are read as the same part.
func TestLayouts(t *testing.T) {
	lists := [][]string{nil, {"."}, {"(O)", "S4", ".", "M3", "t4", "t3~", "t2!", "]2"}, {"[", "turn", "sig", "@F4", "&2", "3/2", "rB", "X-4b*"}, {"t4", "t4", "t4!", "t4", "t4!"}}
	for _, list := range lists {
		want := part(list...)
		for breaks := range 1 << max(len(list)-1, 0) {
			for _, feed := range []string{"\n", " \n", "\n ", ";\n", " ; end \"\n", "\n\n", "\n; part b\n  \n\n", ";\x00\xff\n"} {
				for _, blank := range []string{" ", "   "} {
					text := laid(list, breaks, blank, feed)
					for _, whole := range []string{text, feed + text, text + feed, "  " + text + " ;x"} {
						parses(t, whole, want)
					}
				}
			}
		}
		first, _ := notate.Text(want)
		p, _ := notate.Parse(laid(list, 5, "  ", ";x\n"))
		if second, e := notate.Text(p); second != first || e != api.OK {
			t.Errorf("%v: the text of the same part is %q, then %q %v", list, first, second, e)
		}
	}
}

// P10.7: many signs, in rows of any number.
func TestRowLengths(t *testing.T) {
	list := repeated(400, "S4", ".", "t4", "t3!", "M3*")
	for many := 1; many <= 150; many++ {
		var rows []string
		for row := range slices.Chunk(list, many) {
			rows = append(rows, strings.Join(row, " "))
		}
		parses(t, "part a\n"+strings.Join(rows, "\n")+"\nend", part(list...))
	}
}
