package pitch

import (
	"strconv"
	"strings"

	"tactus/api"
)

// letters has the letter of each step.
const letters = "cdefgab"

// signs has the sign of each Alter, from flat on.
var signs = [3]string{"b", "", "#"}

// Text returns the text of p.
func Text(p api.Pitch) (string, api.Errno) {
	if e := Check(p); e != api.OK {
		return "", e
	}
	return letters[p.Step:p.Step+1] + signs[p.Alter-api.Flat] + strconv.Itoa(p.Octave), api.OK
}

// Parse returns the pitch with the text s.
func Parse(s string) (api.Pitch, api.Errno) {
	if len(s) < 2 {
		return api.Pitch{}, api.ErrForm
	}
	last := len(s) - 1
	p := spelling{letter: s[0], sign: s[1:last], digit: s[last]}.pitch()
	if Check(p) != api.OK {
		return api.Pitch{}, api.ErrForm
	}
	return p, api.OK
}

// spelling is a text of at least two bytes, divided like the text of a pitch.
type spelling struct {
	letter byte
	sign   string
	digit  byte
}

// pitch returns the pitch that is spelled. It is valid if the text is that of a pitch, and only then.
func (s spelling) pitch() api.Pitch {
	return api.Pitch{Step: strings.IndexByte(letters, s.letter), Octave: int(s.digit) - '0', Alter: s.alter()}
}

// alter returns the Alter of the sign, or one beyond the last if there is no such sign.
func (s spelling) alter() int {
	alter := api.Flat
	for alter <= api.Sharp && signs[alter-api.Flat] != s.sign {
		alter++
	}
	return alter
}
