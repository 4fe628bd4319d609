package sign_test

import (
	"math"
	"slices"

	"tactus/api"
	"tactus/sign"
)

// leaf is one of the numbers and bools (0 and 1) of a sign besides its kind.
type leaf struct {
	name string
	get  func(s api.Sign) int
	set  func(s *api.Sign, n int)
}

// number is a leaf that is a number.
func number(name string, at func(s *api.Sign) *int) leaf {
	return leaf{name, func(s api.Sign) int { return *at(&s) }, func(s *api.Sign, n int) { *at(s) = n }}
}

// truth is a leaf that is a bool.
func truth(name string, at func(s *api.Sign) *bool) leaf {
	get := func(s api.Sign) int {
		if *at(&s) {
			return 1
		}
		return 0
	}
	return leaf{name, get, func(s *api.Sign, n int) { *at(s) = n != 0 }}
}

// leaves are all of them.
func leaves() []leaf {
	return []leaf{
		number("Value", func(s *api.Sign) *int { return &s.Value }), number("Place", func(s *api.Sign) *int { return &s.Place }), number("Acc", func(s *api.Sign) *int { return &s.Acc }),
		truth("Color", func(s *api.Sign) *bool { return &s.Color }), number("Stem", func(s *api.Sign) *int { return &s.Stem }),
		truth("Oblique", func(s *api.Sign) *bool { return &s.Oblique }), truth("Last", func(s *api.Sign) *bool { return &s.Last }),
		number("Max", func(s *api.Sign) *int { return &s.Mens.Max }), number("Mod", func(s *api.Sign) *int { return &s.Mens.Mod }), number("Tem", func(s *api.Sign) *int { return &s.Mens.Tem }), number("Pro", func(s *api.Sign) *int { return &s.Mens.Pro }),
		truth("Stroke", func(s *api.Sign) *bool { return &s.Stroke }), number("N", func(s *api.Sign) *int { return &s.N }), number("D", func(s *api.Sign) *int { return &s.D }),
		number("Step", func(s *api.Sign) *int { return &s.Clef.Step }), number("Line", func(s *api.Sign) *int { return &s.Clef.Line }),
	}
}

// upTo are the numbers from low to high.
func upTo(low, high int) []int {
	var all []int
	for n := low; n <= high; n++ {
		all = append(all, n)
	}
	return all
}

// allowed has, for each kind, the leaves that it uses, with all that they may be.
func allowed(kind int) map[string][]int {
	values, places, accs, either := upTo(1, 8), upTo(-4, 12), upTo(-1, 2), upTo(0, 1)
	switch kind {
	case 1:
		return map[string][]int{"Value": values, "Place": places, "Acc": accs, "Color": either}
	case 2:
		return map[string][]int{"Value": values}
	case 4:
		return map[string][]int{"Place": places, "Acc": accs, "Color": either, "Stem": upTo(0, 3), "Oblique": either, "Last": either}
	case 5:
		return map[string][]int{"Max": {2, 3}, "Mod": {2, 3}, "Tem": {2, 3}, "Pro": {2, 3}, "Stroke": either}
	case 6:
		return map[string][]int{"N": upTo(1, 100), "D": upTo(1, 100)}
	case 7:
		return map[string][]int{"Step": {0, 3, 4}, "Line": upTo(1, 5)}
	case 8:
		return map[string][]int{"N": upTo(0, 2)}
	case 10:
		return map[string][]int{"N": upTo(2, 4)}
	}
	return nil
}

// verdict goes through the errors of P8.1 in their order.
func verdict(s api.Sign) api.Errno {
	if !slices.Contains(upTo(1, 12), s.Kind) {
		return api.ErrKind
	}
	may, faults := allowed(s.Kind), map[api.Errno]bool{}
	for _, l := range leaves() {
		of, is := may[l.name]
		switch {
		case !is && l.get(s) != 0:
			faults[api.ErrForm] = true
		case is && !slices.Contains(of, l.get(s)) && slices.Contains([]string{"Max", "Mod", "Tem", "Pro"}, l.name):
			faults[api.ErrMens] = true
		case is && !slices.Contains(of, l.get(s)):
			faults[api.ErrRange] = true
		}
	}
	for _, e := range []api.Errno{api.ErrForm, api.ErrMens, api.ErrRange} {
		if faults[e] {
			return e
		}
	}
	if s.Kind == 4 && s.Oblique && s.Last {
		return api.ErrForm
	}
	return api.OK
}

// everySign are all valid signs of a kind, and those that are Oblique and Last besides.
func everySign(kind int) []api.Sign {
	may, all := allowed(kind), []api.Sign{{Kind: kind}}
	for _, l := range leaves() {
		of, is := may[l.name]
		if !is {
			continue
		}
		var more []api.Sign
		for _, s := range all {
			for _, n := range of {
				l.set(&s, n)
				more = append(more, s)
			}
		}
		all = more
	}
	return all
}

// someSigns are valid signs of a kind: one with the least of what is allowed, one with the greatest, a few between.
func someSigns(kind int) []api.Sign {
	all := slices.DeleteFunc(everySign(kind), func(s api.Sign) bool { return s.Oblique && s.Last })
	some := []api.Sign{all[0], all[len(all)-1]}
	for i := 1; i < 6; i++ {
		some = append(some, all[i*len(all)/6])
	}
	return some
}

// anyInts are ints of all sizes.
func anyInts() []int {
	ints := []int{
		math.MinInt, math.MinInt + 1, math.MinInt + 2, math.MinInt + 4, math.MinInt / 2, math.MinInt32, -1 << 32, -257, -256, -255, -254, -128, 98, 99, 100, 101, 102, 127, 128, 254, 255, 256, 257, 258, 259, 260,
		1 << 16, 1<<16 + 2, 1 << 31, 1 << 32, 1<<32 + 1, 1<<32 + 2, 1<<32 + 3, 1<<32 + 4, 1<<40 + 3, 1 << 62, math.MaxInt / 2, math.MaxInt - 12, math.MaxInt - 4, math.MaxInt - 1, math.MaxInt,
	}
	return append(ints, upTo(-30, 40)...)
}

// fault is an error of Check and its number.
type fault struct {
	e  api.Errno
	at int
}

// runs are the runs of signs of the kind Tied that are as long as possible, by the numbers of their first sign and of the one after their last sign.
func runs(l []api.Sign) [][2]int {
	var all [][2]int
	for i := 0; i < len(l); i++ {
		from := i
		for i < len(l) && l[i].Kind == 4 {
			i++
		}
		if i > from {
			all = append(all, [2]int{from, i})
		}
	}
	return all
}

// pieces cuts each run after each sign that is Last.
func pieces(l []api.Sign) [][2]int {
	var all [][2]int
	for _, r := range runs(l) {
		from := r[0]
		for i := r[0]; i < r[1]; i++ {
			if l[i].Last || i == r[1]-1 {
				all = append(all, [2]int{from, i + 1})
				from = i + 1
			}
		}
	}
	return all
}

// judged finds all faults of a part with a valid name, and returns the one that P8.2 names first.
func judged(l []api.Sign) fault {
	if len(l) > 400 {
		return fault{api.ErrFull, 0}
	}
	least := fault{api.OK, len(l)}
	for _, x := range pieces(l) {
		end := x[1] - 1
		if (!l[end].Last || end == x[0]) && end < least.at {
			least = fault{api.ErrForm, end}
		}
	}
	// Of the same sign the error of One comes first.
	for i, s := range l {
		if e := verdict(s); e != api.OK && i <= least.at {
			return fault{e, i}
		}
	}
	if least.e == api.OK {
		return fault{}
	}
	return least
}

// part is one with a valid name.
func part(l ...api.Sign) api.Part { return api.Part{Name: "a", Signs: l} }

// checked is what Check returns.
func checked(p api.Part) fault {
	e, at := sign.Check(p)
	return fault{e, at}
}

// n, r and d are valid signs, tied and last those of a ligature; the others are invalid in several ways.
func n(v int) api.Sign { return api.Sign{Kind: api.Note, Value: v} }
func r(v int) api.Sign { return api.Sign{Kind: api.Rest, Value: v} }

func d() api.Sign        { return api.Sign{Kind: api.Dot} }
func tied() api.Sign     { return api.Sign{Kind: api.Tied} }
func last() api.Sign     { return api.Sign{Kind: api.Tied, Last: true} }
func bothTied() api.Sign { return api.Sign{Kind: api.Tied, Oblique: true, Last: true} }
func badTied() api.Sign  { return api.Sign{Kind: api.Tied, Stem: 4} }
func badMens() api.Sign  { return api.Sign{Kind: api.Mensural} }

// tuples are all lists of up to most of some signs.
func tuples(most int, from ...api.Sign) [][]api.Sign {
	all := [][]api.Sign{nil}
	longest := all
	for range most {
		var more [][]api.Sign
		for _, l := range longest {
			for _, s := range from {
				more = append(more, append(slices.Clone(l), s))
			}
		}
		all, longest = append(all, more...), more
	}
	return all
}

// inserted is l with s at the place i.
func inserted(l []api.Sign, i int, s api.Sign) []api.Sign {
	return slices.Insert(slices.Clone(l), i, s)
}

// guarded is a part with room behind its signs that holds a sign, to see whether it is changed.
func guarded(name string, l []api.Sign) api.Part {
	return api.Part{Name: name, Signs: append(slices.Clone(l), n(7), n(7), n(7))[:len(l)]}
}

// isGuarded tells whether a guarded part and the room behind it are as they were.
func isGuarded(p api.Part, l []api.Sign) bool {
	return slices.Equal(p.Signs, l) && slices.Equal(p.Signs[:len(l)+3][len(l):], []api.Sign{n(7), n(7), n(7)})
}
