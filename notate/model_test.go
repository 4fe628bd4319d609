package notate_test

import (
	"fmt"
	"math"
	"regexp"
	"slices"
	"strconv"
	"strings"

	"tactus/api"
	"tactus/mens"
	"tactus/sign"
	"tactus/words"
)

const letters = "XLBSMQFZ"

// The texts of signs, with any digits.
var (
	noteForm  = regexp.MustCompile(`^([XLBSMQFZ])(-?[0-9]+)([b#n]?)(\*?)$`)
	restForm  = regexp.MustCompile(`^r([XLBSMQFZ])$`)
	tiedForm  = regexp.MustCompile(`^t(-?[0-9]+)([b#n]?)(\*?)([v>^]?)(~?)(!?)$`)
	mensForm  = regexp.MustCompile(`^\((23|32|33|)([CO])(\.?)\)(\|?)$`)
	ratioForm = regexp.MustCompile(`^([0-9]+)/([0-9]+)$`)
	clefForm  = regexp.MustCompile(`^@([CFG])([0-9]+)$`)
	countForm = regexp.MustCompile(`^([&\]])([0-9]+)$`)
	digitForm = regexp.MustCompile(`^(0|-?[1-9][0-9]{0,12})$`)
)

// numbers are the numbers that the texts are, and whether all of them are numbers.
func numbers(list ...string) ([]int, bool) {
	var all []int
	for _, s := range list {
		n, _ := strconv.Atoi(s)
		if !digitForm.MatchString(s) || n > 1<<40 || n < -1<<40 {
			return []int{0, 0}, false
		}
		all = append(all, n)
	}
	return all, true
}

// accOf is the accidental of a mark, stemOf the stem.
func accOf(mark string) int  { return map[string]int{"b": -1, "": 0, "#": 1, "n": 2}[mark] }
func stemOf(mark string) int { return map[string]int{"": 0, "^": 1, "v": 2, ">": 3}[mark] }

// modelSign reads a word another way than the program.
func modelSign(word string) (api.Sign, api.Errno) {
	s, ok := api.Sign{}, true
	var l []int
	if i := slices.Index([]string{".", "[", "turn", "sig"}, word); i >= 0 {
		s = api.Sign{Kind: []int{3, 9, 11, 12}[i]}
	} else if m := noteForm.FindStringSubmatch(word); m != nil {
		l, ok = numbers(m[2])
		s = api.Sign{Kind: 1, Value: strings.Index(letters, m[1]) + 1, Place: l[0], Acc: accOf(m[3]), Color: m[4] != ""}
	} else if m := restForm.FindStringSubmatch(word); m != nil {
		s = api.Sign{Kind: 2, Value: strings.Index(letters, m[1]) + 1}
	} else if m := tiedForm.FindStringSubmatch(word); m != nil {
		l, ok = numbers(m[1])
		s = api.Sign{Kind: 4, Place: l[0], Acc: accOf(m[2]), Color: m[3] != "", Stem: stemOf(m[4]), Oblique: m[5] != "", Last: m[6] != ""}
	} else if m := mensForm.FindStringSubmatch(word); m != nil {
		l, _ = numbers(strings.Split(m[1]+"22"[:2-len(m[1])], "")...)
		s = api.Sign{Kind: 5, Mens: api.Mens{Max: l[0], Mod: l[1], Tem: 2 + strings.Index("CO", m[2]), Pro: 2 + len(m[3])}, Stroke: m[4] != ""}
	} else if m := ratioForm.FindStringSubmatch(word); m != nil {
		l, ok = numbers(m[1], m[2])
		s = api.Sign{Kind: 6, N: l[0], D: l[1]}
	} else if m := clefForm.FindStringSubmatch(word); m != nil {
		l, ok = numbers(m[2])
		s = api.Sign{Kind: 7, Clef: api.Clef{Step: map[string]int{"C": 0, "F": 3, "G": 4}[m[1]], Line: l[0]}}
	} else if m := countForm.FindStringSubmatch(word); m != nil {
		l, ok = numbers(m[2])
		s = api.Sign{Kind: map[string]int{"&": 8, "]": 10}[m[1]], N: l[0]}
	} else {
		ok = false
	}
	if !ok {
		return api.Sign{}, api.ErrForm
	}
	if e := sign.One(s); e != api.OK {
		return api.Sign{}, e
	}
	return s, api.OK
}

// modelWord writes a valid sign another way than the program.
func modelWord(s api.Sign) string {
	color, oblique, last, stroke := strings.Repeat("*", count(s.Color)), strings.Repeat("~", count(s.Oblique)), strings.Repeat("!", count(s.Last)), strings.Repeat("|", count(s.Stroke))
	placed := fmt.Sprint(s.Place) + map[int]string{-1: "b", 1: "#", 2: "n"}[s.Acc] + color
	switch s.Kind {
	case 1:
		return letters[s.Value-1:s.Value] + placed
	case 2:
		return "r" + letters[s.Value-1:s.Value]
	case 4:
		return "t" + placed + map[int]string{1: "^", 2: "v", 3: ">"}[s.Stem] + oblique + last
	case 5:
		text, _ := mens.Text(s.Mens)
		return "(" + text + ")" + stroke
	case 6:
		return fmt.Sprintf("%d/%d", s.N, s.D)
	case 7:
		return fmt.Sprintf("@%c%d", "CDEFG"[s.Clef.Step], s.Clef.Line)
	case 8:
		return fmt.Sprintf("&%d", s.N)
	case 10:
		return fmt.Sprintf("]%d", s.N)
	}
	return map[int]string{3: ".", 9: "[", 11: "turn", 12: "sig"}[s.Kind]
}

// count is 1 if something is so.
func count(is bool) int {
	if is {
		return 1
	}
	return 0
}

// setters put a number into each field of a sign; into a bool whether it is odd.
func setters() []func(s *api.Sign, n int) {
	return []func(s *api.Sign, n int){
		func(s *api.Sign, n int) { s.Value = n }, func(s *api.Sign, n int) { s.Place = n }, func(s *api.Sign, n int) { s.Acc = n }, func(s *api.Sign, n int) { s.Stem = n },
		func(s *api.Sign, n int) { s.N = n }, func(s *api.Sign, n int) { s.D = n }, func(s *api.Sign, n int) { s.Clef.Step = n }, func(s *api.Sign, n int) { s.Clef.Line = n },
		func(s *api.Sign, n int) { s.Mens.Max = n }, func(s *api.Sign, n int) { s.Mens.Mod = n }, func(s *api.Sign, n int) { s.Mens.Tem = n }, func(s *api.Sign, n int) { s.Mens.Pro = n },
		func(s *api.Sign, n int) { s.Color = n%2 != 0 }, func(s *api.Sign, n int) { s.Oblique = n%2 != 0 }, func(s *api.Sign, n int) { s.Last = n%2 != 0 }, func(s *api.Sign, n int) { s.Stroke = n%2 != 0 },
	}
}

// varied are the valid signs that one of the setters makes of these signs with the numbers from -4 to most.
func varied(from []api.Sign, most int, set ...func(s *api.Sign, n int)) []api.Sign {
	for _, put := range set {
		seen := map[api.Sign]bool{}
		var all []api.Sign
		for _, s := range from {
			for n := -4; n <= most; n++ {
				x := s
				put(&x, n)
				if !seen[x] {
					seen[x] = true
					all = append(all, x)
				}
			}
		}
		from = all
	}
	return slices.DeleteFunc(from, func(s api.Sign) bool { return sign.One(s) != api.OK })
}

// everySign are all valid signs of a kind.
func everySign(kind int) []api.Sign {
	set, all := setters(), []api.Sign{{Kind: kind}}
	switch kind {
	case 1:
		return varied(all, 12, set[0], set[1], set[2], set[12])
	case 2:
		return varied(all, 12, set[0])
	case 4:
		return varied(all, 12, set[1], set[2], set[3], set[12], set[13], set[14])
	case 5:
		return varied(all, 4, set[8], set[9], set[10], set[11], set[15])
	case 6:
		return varied(all, 101, set[4], set[5])
	case 7:
		return varied(all, 12, set[6], set[7])
	case 8, 10:
		return varied(all, 12, set[4])
	}
	return all
}

// someSigns are valid signs of a kind: the first one, the last one, and some between.
func someSigns(kind, many int) []api.Sign {
	all := everySign(kind)
	if len(all) <= many {
		return all
	}
	var some []api.Sign
	for i := range many {
		some = append(some, all[i*(len(all)-1)/(many-1)])
	}
	return some
}

// anyInts are ints of all sizes.
func anyInts() []int {
	ints := []int{
		math.MinInt, math.MinInt + 1, math.MinInt + 4, math.MinInt32, -1 << 40, -1 << 32, -257, -256, -255, -128, 98, 99, 100, 101, 102, 127, 128, 255, 256, 257, 258, 259,
		1 << 16, 1<<16 + 3, 1 << 31, 1 << 32, 1<<32 + 2, 1<<32 + 3, 1 << 40, 1<<40 + 1, 1 << 62, math.MaxInt - 4, math.MaxInt - 1, math.MaxInt,
	}
	for n := -30; n <= 40; n++ {
		ints = append(ints, n)
	}
	return ints
}

// place is a fault of a text, and when it counts: faults of an earlier stage count first, then those of a smaller offset.
type place struct {
	stage int
	fault api.Fault
}

// modelFaults are all faults of a text that words.Rows divides into these rows.
func modelFaults(rows []api.Row, length int) []place {
	if len(rows) == 0 {
		return []place{{0, api.Fault{Err: api.ErrMissing, At: length}}}
	}
	var all []place
	add := func(stage int, e api.Errno, at int) { all = append(all, place{stage, api.Fault{Err: e, At: at}}) }
	end := slices.IndexFunc(rows, func(r api.Row) bool { return r.Words[0].Text == "end" && !r.Words[0].Quoted && r.At != rows[0].At })
	for i, r := range rows {
		for k, w := range r.Words {
			_, e := modelSign(w.Text)
			switch {
			case i == 0 && k == 0 && (w.Text != "part" || w.Quoted || len(r.Words) != 2):
				add(0, api.ErrForm, w.At)
			case i == 0 && k == 1 && (w.Quoted || !words.Name(w.Text)):
				add(0, api.ErrName, w.At)
			case i > 0 && end >= 0 && (i > end || i == end && k > 0):
				add(0, api.ErrForm, w.At)
			case i > 0 && i != end && w.Quoted:
				add(0, api.ErrForm, w.At)
			case i > 0 && i != end && e != api.OK:
				add(0, e, w.At)
			}
		}
	}
	if end < 0 {
		add(1, api.ErrMissing, length)
	}
	return all
}

// modelParse reads a text another way than the program.
func modelParse(text string) (api.Part, api.Fault) {
	rows, fault := words.Rows(text)
	if fault.Err != api.OK {
		return api.Part{}, fault
	}
	faults := modelFaults(rows, len(text))
	if len(faults) > 0 {
		return api.Part{}, slices.MinFunc(faults, func(a, b place) int {
			if a.stage != b.stage {
				return a.stage - b.stage
			}
			return a.fault.At - b.fault.At
		}).fault
	}
	p := api.Part{Name: rows[0].Words[1].Text}
	var list []api.Word
	for _, r := range rows[1 : len(rows)-1] {
		list = append(list, r.Words...)
	}
	for _, w := range list {
		s, _ := modelSign(w.Text)
		p.Signs = append(p.Signs, s)
	}
	if e, i := sign.Check(p); e != api.OK {
		return api.Part{}, api.Fault{Err: e, At: list[i].At}
	}
	return p, api.Fault{}
}

// modelText writes a valid part another way than the program.
func modelText(p api.Part) string {
	text := "part " + p.Name
	for i, s := range p.Signs {
		text += map[bool]string{true: "\n", false: " "}[i%16 == 0] + modelWord(s)
	}
	return text + "\nend\n"
}
