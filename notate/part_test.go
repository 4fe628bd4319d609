package notate_test

import (
	"slices"
	"strings"
	"testing"

	"tactus/api"
	"tactus/notate"
	"tactus/sign"
	"tactus/words"
)

// part is one with the name a and signs that are read from words.
func part(list ...string) api.Part {
	p := api.Part{Name: "a"}
	for _, word := range list {
		s, _ := modelSign(word)
		p.Signs = append(p.Signs, s)
	}
	return p
}

// repeated are many words, one list again and again.
func repeated(many int, list ...string) []string {
	return slices.Repeat(list, many)[:many]
}

// P10.2: texts of parts, written out.
func TestText(t *testing.T) {
	dots := strings.TrimSpace(strings.Repeat(". ", 16))
	for _, c := range []struct {
		p    api.Part
		want string
	}{
		{part("(O)", "S4", ".", "M3"), "part a\n(O) S4 . M3\nend\n"}, {part(), "part a\nend\n"}, {api.Part{Name: "a", Signs: []api.Sign{}}, "part a\nend\n"}, {api.Part{Name: "cantus-1"}, "part cantus-1\nend\n"}, {api.Part{Name: "end"}, "part end\nend\n"}, {api.Part{Name: strings.Repeat("z", 20)}, "part zzzzzzzzzzzzzzzzzzzz\nend\n"},
		{part("."), "part a\n.\nend\n"}, {part(repeated(15, ".")...), "part a\n" + dots[2:] + "\nend\n"}, {part(repeated(16, ".")...), "part a\n" + dots + "\nend\n"}, {part(repeated(17, ".")...), "part a\n" + dots + "\n.\nend\n"},
		{part(repeated(31, ".")...), "part a\n" + dots + "\n" + dots[2:] + "\nend\n"}, {part(repeated(32, ".")...), "part a\n" + dots + "\n" + dots + "\nend\n"}, {part(repeated(33, ".")...), "part a\n" + dots + "\n" + dots + "\n.\nend\n"}, {part(repeated(400, ".")...), "part a\n" + strings.Repeat(dots+"\n", 25) + "end\n"},
		{part("@C3", "&1", "(33O.)|", "[", "t4^", "t2~", "t3b*!", "rB", "]2", "sig", "turn", "3/2", "X-4n*"), "part a\n@C3 &1 (33O.)| [ t4^ t2~ t3b*! rB ]2 sig turn 3/2 X-4n*\nend\n"},
		{part(append(repeated(15, "M0"), "t4", "t3!")...), "part a\n" + strings.Repeat("M0 ", 15) + "t4\nt3!\nend\n"},
	} {
		if s, e := notate.Text(c.p); s != c.want || e != api.OK {
			t.Errorf("Text(%.60v): %q %v, not %q", c.p, s, e, c.want)
		}
	}
}

// P10.2: the errors of sign.Check.
func TestTextErrors(t *testing.T) {
	with := func(s api.Sign, list ...string) api.Part {
		p := part(list...)
		p.Signs = append(p.Signs, s)
		return p
	}
	for _, c := range []struct {
		want api.Errno
		p    api.Part
	}{
		{api.ErrName, api.Part{}}, {api.ErrName, api.Part{Name: "A"}}, {api.ErrName, api.Part{Name: "a b"}}, {api.ErrName, api.Part{Name: strings.Repeat("a", 21)}}, {api.ErrName, api.Part{Name: "1", Signs: []api.Sign{{Kind: 13}}}}, {api.ErrName, api.Part{Name: "a\n", Signs: slices.Repeat([]api.Sign{{Kind: 13}}, 401)}},
		{api.ErrFull, part(repeated(401, ".")...)}, {api.ErrFull, part(repeated(401, "t4")...)}, {api.ErrFull, api.Part{Name: "a", Signs: slices.Repeat([]api.Sign{{Kind: 13}}, 401)}}, {api.ErrFull, api.Part{Name: "a", Signs: make([]api.Sign, 100000)}},
		{api.ErrKind, with(api.Sign{})}, {api.ErrKind, with(api.Sign{Kind: 13}, "S4")}, {api.ErrRange, with(api.Sign{Kind: 1, Value: 9}, repeated(16, ".")...)}, {api.ErrMens, with(api.Sign{Kind: 5}, repeated(399, ".")...)}, {api.ErrForm, with(api.Sign{Kind: 3, N: 1}, "S4")},
		{api.ErrForm, part("t4")}, {api.ErrForm, part("t4!")}, {api.ErrForm, part("t4", ".", "t4!")}, {api.ErrForm, part("t4", "t4!", "t4!")}, {api.ErrForm, with(api.Sign{}, "t4", ".")}, {api.ErrKind, with(api.Sign{}, "t4", "t4!", ".")},
	} {
		if s, e := notate.Text(c.p); s != "" || e != c.want {
			t.Errorf("Text(%.60v): %q %v, not %v", c.p, s, e, c.want)
		}
	}
}

// P10.2: parts with any number of signs of all kinds.
func TestTextLengths(t *testing.T) {
	var list []string
	for kind := 1; kind <= 12; kind++ {
		for _, s := range someSigns(kind, 7) {
			if kind == 4 {
				list = append(list, "t3*^")
				s.Last, s.Oblique = true, false
			}
			list = append(list, modelWord(s))
		}
	}
	for many := range 400 {
		p := part(repeated(many, list...)...)
		want, e := "", api.OK
		if e, _ = sign.Check(p); e == api.OK {
			want = modelText(p)
		}
		if s, f := notate.Text(p); s != want || f != e {
			t.Errorf("Text of %d signs: %q %v, not %q %v", many, s, f, want, e)
		}
	}
}

// samePart tells whether two parts are the same.
func samePart(a, b api.Part) bool { return a.Name == b.Name && slices.Equal(a.Signs, b.Signs) }

// parses sees whether Parse of a text is this part.
func parses(t *testing.T, text string, want api.Part) {
	if p, f := notate.Parse(text); !samePart(p, want) || f != (api.Fault{}) {
		t.Errorf("Parse(%.200q): %.200v %v, not %.200v", text, p, f, want)
	}
}

// P10.3: texts without a fault, written out.
func TestParse(t *testing.T) {
	for _, c := range []struct {
		text string
		want api.Part
	}{
		{"part a\n(O) S4 . ; x\nM3\nend\n", part("(O)", "S4", ".", "M3")}, {"part a\nend\n", part()}, {"part a\nend", part()}, {"part a\nend ; x", part()}, {" part  a ;part\n  end  \n\n;x\n", part()}, {"\n\n; x\npart a\n\nend", part()}, {"part end\nend", api.Part{Name: "end"}}, {"part part\nend", api.Part{Name: "part"}}, {"part zzzzzzzzzzzzzzzzzzz-\nend", api.Part{Name: "zzzzzzzzzzzzzzzzzzz-"}},
		{"part a\nt4\nt3 ; the end\nt2!\nend", part("t4", "t3", "t2!")}, {"part a\nturn sig [ ]4 @G2 &2 100/1 (C)\nend", part("turn", "sig", "[", "]4", "@G2", "&2", "100/1", "(C)")}, {"part a\n;end\n.;end\nend;.", part(".")},
		{"part a\n" + strings.Repeat(". ", 400) + "\nend", part(repeated(400, ".")...)}, {"part a\n" + strings.Repeat(".\n", 400) + "end", part(repeated(400, ".")...)},
	} {
		parses(t, c.text, c.want)
	}
}

// fails sees whether Parse of a text, in which § marks where, has this fault.
func fails(t *testing.T, marked string, want api.Errno) {
	before, behind, _ := strings.Cut(marked, "§")
	if p, f := notate.Parse(before + behind); f != (api.Fault{Err: want, At: len(before)}) || p.Name != "" || len(p.Signs) > 0 {
		t.Errorf("Parse(%.200q): %.100v %v, not %v at %d", before+behind, p, f, want, len(before))
	}
}

// P10.3: each fault, written out, at each row and word where it can be, some with later ones behind it.
func TestParseFaults(t *testing.T) {
	for want, list := range map[api.Errno][]string{
		api.ErrMissing: {
			"§", "\n§", "\n\n\n§", " ; part a\n  §", ";§", "part a§", "part a\n§", "part a ; end§", "part a\nS4§", "part a\nS4\n§", "part a\nS4\n;end\n\n  §", "part end\n§", "part a\nS4 .\n(O)\n; x§",
			// Before what sign.Check says.
			"part a\nt4\n§", "part a\nt4!§", "part a\nt4 S4\n§", "part a\n" + strings.Repeat(". ", 401) + "§",
		},
		api.ErrName: {
			"part §A\nend", "part §\"a\"\nend", "part §\"\"\nend", "part §1a\nend", "part §-\nend", "part §a_b\nend", "part §" + strings.Repeat("a", 21) + "\nend", "part   §a.", "\n ; x\n  part  §A ; x\nend", "part §S4\nend", "part §(O)\nend", "part §.",
			"part §A", "part §A\nS13 \"x\"\nend", "part §A\nend x\ny", "part §\"part\"\nt4\nend", "part §A\n\"end\"",
		},
		api.ErrForm: {
			// The first row.
			"§x a\nend", "§Part a\nend", "§parts a\nend", "§\"part\" a\nend", "§\"part a\"\nend", "§part\nend", "§part", "  §part ; a\nend", "§part a b\nend", "§part a \"b\"\nend", "§part a end", "§part a b c d\nend", "§part \"a\" b\nend", "§part A b\nend", "§end", "§end\n", "§end\nend", "§S4\nend", "§x A\nend", "§\"\" A\nend", "\n; c\n\n  §part\na\nend", "§a part\nend", "§x\npart a\nend", "§\"part\" \"a\"",
			// The row end and what is behind it.
			"part a\nend §x\n", "part a\nend §end\n", "part a\nend  §\"\"\nend", "part a\nend §\"x\" y\nz", "part a\nend §. S13 x\nS13", "part a\nend\n§x", "part a\nend\n\n ;\n  §end\n", "part a\nend\n§\"end\"", "part a\nend\n§part b\nend\n", "part a\nend\n§S13 x", "part a\nS4\nend\n§S4 S4\nend\n", "part a\nend\n§x\ny",
			"part a\nt4\nend §x", "part a\nt4\nend\n§x", "part a\n" + strings.Repeat(". ", 401) + "\nend\n§x",
			// The words of the other rows.
			"part a\n§\"end\"\nend", "part a\n§\"end\"", "part a\n§\"S4\"\nend", "part a\n§\"\"\nend", "part a\nS4 §\"S4\"\nend", "part a\nS4 . §\"S13\" M3\nend", "part a\nS4\n. §\"\"", "part a\n. §end\nend", "part a\n. §end x", "part a\n. . §end", "part a\n§part b\nend", "part a\n§part\nend", "part a\n§a\nend", "part a\n§End\nend", "part a\n§ends\nend", "part a\n§end.\nend",
			"part a\n§x\nend", "part a\nS4 §x\nend", "part a\nS4 S4\nS4 S4\n  S4   §(22O) S4\nend", "part a\n§S04 S13\nend", "part a\n§x S13\nS13", "part a\nS4\n§t4~!\nend", "part a\n" + strings.Repeat(". ", 401) + "§x\nend", "part a\nt4 §x\nend", "part a\nt4 S4\n§\"x\"\nend", "part a\n§M1099511627777",
			// What sign.Check says of ligatures.
			"part a\n§t4 S3\nend", "part a\n§t4\nend", "part a\n§t4!\nend", "part a\nS4 t4 t4! §t4!\nend", "part a\nS4 S4\n ; t4\n  S4   §t4 ; t4!\nend", "part a\nt4 t4\n§t4\n. t4!\nend", "part a\nt4\nt4\n§t4\nend\n", "part a\n§t4 . t4 .\nend", "part a\nS4\nt4\nt4!\n§t4! t4!\nend", "part a\n" + strings.Repeat(".\n", 200) + strings.Repeat(". ", 199) + "§t4\nend",
			// What words.Rows says, before all else.
			"part a\nS4 §\"S4\nend", "part a\n§\té\nend", "part a\nS4§\"x\"\nend", "part A\nx S13\nend\nx §é", "x\n§\"", "§\t", "part a b\nend\n§\x00", "part a\nend§\r\n", "part §\"A\"x\nend", "part a\nS4\n\n §\"x\"y",
		},
		api.ErrRange: {"part a\n§S13\nend", "part a\nS4 §S13\nend", "part a\nS4 .\nM3 §]1 M3\nend", "part a\n§S13", "part a\n§S13 x\nend", "part a\n§0/2 \"x\"\nend x", "part a\n§&3 S13\ny", "part a\n. .\n. §@C6\nend\n.", "part a\nt4 §t13!\nend", "part a\n" + strings.Repeat(". ", 401) + "§S13\nend"},
		api.ErrFull: {
			"part a\n§" + strings.Repeat(". ", 401) + "\nend", " ; x\npart a\n\n  §" + strings.Repeat(".  ; x\n", 401) + "end", "part a\n§" + strings.Repeat("t4 ", 300) + "\n" + strings.Repeat("t4 ", 300) + "\nend", "part a\n §t4! " + strings.Repeat(". ", 400) + "\nend", "part a\n§" + strings.Repeat(strings.Repeat(". ", 499)+".\n", 19) + "end",
		},
		api.ErrLong: {"§" + strings.Repeat("x", 1001), "part a\n§" + strings.Repeat(". ", 501) + "\nend", "part a\nS13\nx\nend\nend\n§" + strings.Repeat(";", 1001), strings.Repeat(strings.Repeat(";", 999)+"\n", 20) + "§;", strings.Repeat("\n", 20000) + "§part a\nend\n", "part A \n" + strings.Repeat("\n", 20000-8) + "§\"", "part a\nend" + strings.Repeat(" ", 20000-10) + "§" + strings.Repeat(" ", 80000)},
	} {
		for _, marked := range list {
			fails(t, marked, want)
		}
	}
}

// P10.3: a text of MaxText bytes, with lines of MaxLine bytes.
func TestParseLongest(t *testing.T) {
	text := "part a\n" + strings.Repeat(strings.Repeat(". ", 20)+strings.Repeat(";", 960)+"\n", 19)
	text += strings.Repeat(".\n", 20) + "end"
	parses(t, text+strings.Repeat("\n", 20000-len(text)), part(repeated(400, ".")...))
}

// compareParse holds Parse against the model.
func compareParse(t *testing.T, text string) api.Fault {
	want, fault := modelParse(text)
	p, f := notate.Parse(text)
	if f != fault || !samePart(p, want) {
		t.Fatalf("Parse(%q): %v %v, not %v %v", text, p, f, want, fault)
	}
	return f
}

// P10.3: each word of a text in the place of which another one stands, each two of them, and each of them left out or put in.
func TestParseOtherWords(t *testing.T) {
	rows := []string{"part", "a", "\n", "S4", "t4", "\n", "t3!", ".", "M3", "\n", "end"}
	others := []string{"part", "\"part\"", "end", "\"end\"", "A", "\"a\"", "S4", "\"S4\"", "S13", "x", "t4", "t4!", "\"", "\t", "\n", ";", "a b", "S4 S13"}
	for i := range rows {
		for _, x := range others {
			one := slices.Replace(slices.Clone(rows), i, i+1, x)
			compareParse(t, strings.Join(one, " "))
			compareParse(t, strings.Join(slices.Insert(slices.Clone(rows), i, x), " "))
			compareParse(t, strings.Join(slices.Delete(slices.Clone(one), i, i+1), " "))
			for k := range i {
				for _, y := range others {
					two := slices.Replace(slices.Clone(one), k, k+1, y)
					compareParse(t, strings.Join(two, " "))
					compareParse(t, strings.Join(two[:i+1], " "))
				}
			}
		}
	}
}

// P10.3: all texts of a few words, in one row or more; how often each error comes is counted.
func TestParseAllTexts(t *testing.T) {
	counts := map[api.Errno]int{}
	try := func(begin string, list []string, most int) {
		all := []string{begin}
		for range most {
			var next []string
			for _, text := range all {
				for _, word := range list {
					next = append(next, text+" "+word, text+"\n"+word)
				}
			}
			for _, text := range next {
				counts[compareParse(t, text).Err]++
			}
			all = next
		}
	}
	try("", []string{"part", "\"part\"", "a", "A", "\"a\"", "end", "S4"}, 3)
	try("part a", []string{"S4", "t4", "t4!", "S13", "\"S4\"", "end", "x"}, 4)
	try("part a\nS4 t4", []string{"t4", "t4!", "end", "."}, 5)
	for e, least := range map[api.Errno]int{api.OK: 100, api.ErrForm: 1000, api.ErrName: 50, api.ErrMissing: 1000, api.ErrRange: 1000} {
		if counts[e] < least {
			t.Errorf("only %d texts with %v", counts[e], e)
		}
	}
}

// P10.3: a text with a byte put in, left out or changed.
func TestParseOtherBytes(t *testing.T) {
	text := " part a ;x\n\nS4 t4\nt3~ t2!  ;\n \nend ;\n;\n"
	for i := range len(text) + 1 {
		for b := range 256 {
			one := string([]byte{byte(b)})
			compareParse(t, text[:i]+one+text[i:])
			if i < len(text) {
				compareParse(t, text[:i]+one+text[i+1:])
			}
		}
		if i < len(text) {
			compareParse(t, text[:i]+text[i+1:])
		}
		compareParse(t, text[:i])
		compareParse(t, text[i:])
		compareParse(t, text[:i]+"\n"+text)
	}
}

// P10.3: the faults of words.Rows, whatever else is wrong with the text.
func TestParseRowsFaults(t *testing.T) {
	texts := []string{"part a\nS4\nend\n", "x\n", "part A\nend\n", "part a\nS13\n", "part a\nt4\nend\n", "part a\nend\nx\n", ""}
	for _, text := range texts {
		for _, bad := range []string{"\t", "é", "\x00", "\r", "\"x", "x\"y\"", "\"x\"y", strings.Repeat(";", 1001), strings.Repeat(" ", 20001)} {
			for _, whole := range []string{text + bad, bad + "\n" + text, text + bad + "\n" + text} {
				_, want := words.Rows(whole)
				if p, f := notate.Parse(whole); want.Err == api.OK || f != want || p.Name != "" || len(p.Signs) > 0 {
					t.Errorf("Parse(%.60q): %v %v, not %v", whole, p, f, want)
				}
			}
		}
	}
}

// R4: parts are not changed, and results share no memory with them or with other results.
func TestPartsKept(t *testing.T) {
	guard := api.Sign{Kind: 77, N: 7}
	for _, list := range [][]string{nil, {"S4"}, {"t4", "t3!", ".", "(O)|"}, repeated(16, "M3"), repeated(33, "M3", "."), {"t4", "."}, {"S4", "x"}} {
		was := part(list...)
		signs := slices.Concat(was.Signs, slices.Repeat([]api.Sign{guard}, 40))
		p := api.Part{Name: "a", Signs: signs[:len(list)]}
		first, _ := notate.Text(p)
		if second, _ := notate.Text(p); second != first {
			t.Errorf("the text %q became %q", first, second)
		}
		if !samePart(p, was) || slices.ContainsFunc(signs[len(list):], func(s api.Sign) bool { return s != guard }) {
			t.Errorf("%v became %v", was, signs)
		}
		one, _ := notate.Parse(first)
		two, _ := notate.Parse(first)
		for i := range one.Signs {
			one.Signs[i] = guard
		}
		if first != "" && !samePart(two, p) {
			t.Errorf("Parse(%q): %v after the first result was changed", first, two)
		}
	}
}
