package mens

import (
	"strconv"

	"tactus/api"
)

// mensurations is how many valid mensurations there are.
const mensurations = 16

// Text returns the text of m.
func Text(m api.Mens) (string, api.Errno) {
	if e := Check(m); e != api.OK {
		return "", e
	}
	return numbersOf(m).text(), api.OK
}

// Parse returns the mensuration with the text s.
func Parse(s string) (api.Mens, api.Errno) {
	l, is := numbersByText()[s]
	if !is {
		return api.Mens{}, api.ErrForm
	}
	return l.mens(), api.OK
}

// Number returns the number of m.
func Number(m api.Mens) (int, api.Errno) {
	if e := Check(m); e != api.OK {
		return 0, e
	}
	n := 0
	for _, parts := range numbersOf(m) {
		n = 2*n + parts - imperfect
	}
	return n, api.OK
}

// Of returns the mensuration with the number n.
func Of(n int) (api.Mens, api.Errno) {
	if n < 0 || n >= mensurations {
		return api.Mens{}, api.ErrRange
	}
	return numbersAt(n).mens(), api.OK
}

// numbersAt returns the numbers of the mensuration with the number n, from 0 to 15.
func numbersAt(n int) numbers {
	var l numbers
	for place := places - 1; place >= 0; place-- {
		l[place] = imperfect + n%2
		n /= 2
	}
	return l
}

// numbersByText returns the numbers of each mensuration by its text.
func numbersByText() map[string]numbers {
	byText := map[string]numbers{}
	for n := range mensurations {
		l := numbersAt(n)
		byText[l.text()] = l
	}
	return byText
}

// text returns the text of the mensuration with these numbers.
func (l numbers) text() string {
	text := ""
	if l[ofMaxima] == perfect || l[ofLong] == perfect {
		text = strconv.Itoa(l[ofMaxima]) + strconv.Itoa(l[ofLong])
	}
	if l[ofBreve] == perfect {
		text += "O"
	} else {
		text += "C"
	}
	if l[ofSemibreve] == perfect {
		text += "."
	}
	return text
}
