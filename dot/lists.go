package dot

import "tactus/api"

// Count returns how many lists of meanings of all dots there are.
func Count(m api.Mens, l []api.Sign) (int, api.Errno) {
	all, e := Meanings(m, l)
	if e != api.OK {
		return 0, e
	}
	product := 1
	for _, meanings := range all {
		product *= len(meanings)
		if product > api.MaxCombos {
			return 0, api.ErrMany
		}
	}
	return product, api.OK
}

// Of returns the list of meanings number n.
func Of(m api.Mens, l []api.Sign, n int) ([]int, api.Errno) {
	product, e := Count(m, l)
	if e != api.OK {
		return nil, e
	}
	if n < 0 || n >= product {
		return nil, api.ErrRange
	}
	all, _ := Meanings(m, l)
	var list []int
	for dot, place := range countUp(all, n) {
		list = append(list, all[dot][place])
	}
	return list, api.OK
}

// countUp returns the places of the meanings of the list number n among those of their dots.
func countUp(all [][]int, n int) []int {
	places := make([]int, len(all))
lists:
	for range n {
		for dot := len(all) - 1; dot >= 0; dot-- {
			places[dot]++
			if places[dot] < len(all[dot]) {
				continue lists
			}
			places[dot] = 0
		}
	}
	return places
}
