package sign

import "tactus/api"

// The kinds of signs, by which usedBy is indexed.
const (
	note = api.Note + iota
	rest
	dot
	tied
	mensural
	proportion
	clefSign
	key
	opening
	closing
	turn
	signum
)

// fields tells which fields of a sign a kind uses besides Kind itself.
type fields struct {
	value   bool
	place   bool
	acc     bool
	color   bool
	stem    bool
	oblique bool
	last    bool
	mens    bool
	stroke  bool
	n       bool
	d       bool
	clef    bool
}

// usedBy has the fields that each kind uses.
var usedBy = [signum + 1]fields{
	note:       {value: true, place: true, acc: true, color: true},
	rest:       {value: true},
	dot:        {},
	tied:       {place: true, acc: true, color: true, stem: true, oblique: true, last: true},
	mensural:   {mens: true, stroke: true},
	proportion: {n: true, d: true},
	clefSign:   {clef: true},
	key:        {n: true},
	opening:    {},
	closing:    {n: true},
	turn:       {},
	signum:     {},
}

// of returns a copy of s that has only its kind and these fields.
func (f fields) of(s api.Sign) api.Sign {
	return api.Sign{
		Kind:    s.Kind,
		Value:   keep(f.value, s.Value),
		Place:   keep(f.place, s.Place),
		Acc:     keep(f.acc, s.Acc),
		Color:   keep(f.color, s.Color),
		Stem:    keep(f.stem, s.Stem),
		Oblique: keep(f.oblique, s.Oblique),
		Last:    keep(f.last, s.Last),
		Mens:    keep(f.mens, s.Mens),
		Stroke:  keep(f.stroke, s.Stroke),
		N:       keep(f.n, s.N),
		D:       keep(f.d, s.D),
		Clef:    keep(f.clef, s.Clef),
	}
}

// keep returns x if it is used, otherwise zero.
func keep[T any](used bool, x T) T {
	var zero T
	if used {
		return x
	}
	return zero
}
