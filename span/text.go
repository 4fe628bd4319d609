package span

import (
	"strconv"

	"tactus/api"
)

// Text returns the text of t.
func Text(t api.Time) (string, api.Errno) {
	if e := Check(t); e != api.OK {
		return "", e
	}
	text := strconv.Itoa(t.N)
	if t.D > 1 {
		text += "/" + strconv.Itoa(t.D)
	}
	return text, api.OK
}

// Parse returns the time with the text s.
func Parse(s string) (api.Time, api.Errno) {
	list, is := numbers(s)
	if !is {
		return api.Time{}, api.ErrForm
	}
	t := api.Time{N: list[0], D: 1}
	if len(list) > 1 {
		t.D = list[1]
	}
	if t.N > api.MaxNum || t.D > api.MaxDen {
		return api.Time{}, api.ErrLong
	}
	if len(list) > 1 && t.D < 2 {
		return api.Time{}, api.ErrForm
	}
	if e := Check(t); e != api.OK {
		return api.Time{}, e
	}
	return t, api.OK
}

// numbers reads one number, or two with / between them. A number above MaxNum is read as MaxNum + 1, so that no
// text is too long for it.
func numbers(s string) (list []int, is bool) {
	n, digits := 0, 0
runes:
	for _, r := range s {
		switch {
		case r == '/' && digits > 0 && len(list) == 0:
			list = append(list, n)
			n, digits = 0, 0
		case '0' <= r && r <= '9' && (digits == 0 || n > 0):
			n = min(n*10+int(r-'0'), api.MaxNum+1)
			digits++
		default:
			digits = 0
			break runes
		}
	}
	if digits == 0 {
		return nil, false
	}
	return append(list, n), true
}
