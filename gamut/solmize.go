package gamut

import "tactus/api"

// Solmize returns the best solmization of a melody, and the number of its mutations.
func Solmize(l []api.Pitch) ([]api.Syllable, int, api.Errno) {
	if len(l) > api.MaxSigns {
		return nil, 0, api.ErrFull
	}
	for _, p := range l {
		if e := checkSung(p); e != api.OK {
			return nil, 0, e
		}
	}
	if len(l) == 0 {
		return nil, 0, api.OK
	}
	table := plansFor(l)
	// Before the first pitch there is no hexachord, so that no mutation is at it.
	step := table[0].before(api.Syllable{}, l[0])
	mutations := step.mutations
	var best []api.Syllable
	for i := range l {
		best = append(best, step.next)
		step = table[i][step.next.Hex]
	}
	return best, mutations, api.OK
}

// Mutations returns the indices of the elements at which a mutation is, and whether each of them is smooth.
func Mutations(l []api.Syllable) ([]int, []bool, api.Errno) {
	if len(l) > api.MaxSigns {
		return nil, nil, api.ErrFull
	}
	for _, w := range l {
		if _, e := Pitch(w); e != api.OK {
			return nil, nil, e
		}
	}
	var at []int
	var smooth []bool
	for i := 1; i < len(l); i++ {
		if l[i].Hex != l[i-1].Hex {
			at = append(at, i)
			smooth = append(smooth, isSmooth(l[i-1], l[i]))
		}
	}
	return at, smooth, api.OK
}

// plan tells how a melody goes on best after one of its pitches, which is sung in a certain way.
type plan struct {
	mutations int // at the pitches after it
	rough     int // those of them that are not smooth
	next      api.Syllable
}

// better tells whether p is better than q, whatever their hexachords.
func (p plan) better(q plan) bool {
	if p.mutations != q.mutations {
		return p.mutations < q.mutations
	}
	return p.rough < q.rough
}

// plans has the plan after a pitch for each hexachord that it is sung with.
type plans [hexachords + 1]plan

// before returns the plan after the way w, if a pitch with these plans follows.
func (l plans) before(w api.Syllable, following api.Pitch) plan {
	var best plan
	for next := range ways(following) {
		p := plan{mutations: l[next.Hex].mutations, rough: l[next.Hex].rough, next: next}
		if w.Hex != 0 && w.Hex != next.Hex {
			p.mutations++
			if !isSmooth(w, next) {
				p.rough++
			}
		}
		// The ways ascend: among equal plans the first one has the smallest hexachord.
		if best.next.Hex == 0 || p.better(best) {
			best = p
		}
	}
	return best
}

// plansFor returns the plans for each pitch of a melody that can be sung.
func plansFor(l []api.Pitch) []plans {
	table := make([]plans, len(l))
	for i := len(l) - 2; i >= 0; i-- {
		for w := range ways(l[i]) {
			table[i][w.Hex] = table[i+1].before(w, l[i+1])
		}
	}
	return table
}

// checkSung tells whether p is valid and in the gamut.
func checkSung(p api.Pitch) api.Errno {
	l, e := Ways(p)
	if e == api.OK && len(l) == 0 {
		return api.ErrNone
	}
	return e
}

// isSmooth tells whether a mutation from the way a to the way b is smooth.
func isSmooth(a, b api.Syllable) bool { return isIn(b, a.Hex) || isIn(a, b.Hex) }

// isIn tells whether the pitch of the way w is in a hexachord.
func isIn(w api.Syllable, hex int) bool {
	p, _ := Pitch(w)
	for other := range ways(p) {
		if other.Hex == hex {
			return true
		}
	}
	return false
}
