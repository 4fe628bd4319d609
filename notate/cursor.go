package notate

import (
	"strings"

	"tactus/api"
	"tactus/mens"
	"tactus/words"
)

// cursor goes over the bytes of a word, and puts what it takes from them into the sign.
type cursor struct {
	left string
	sign api.Sign
}

// each takes one piece after the other, as long as they are there.
func each(pieces ...func() bool) bool {
	for _, take := range pieces {
		if !take() {
			return false
		}
	}
	return true
}

func (c *cursor) note() bool { return each(c.value, c.place, c.accidental, c.color) }

func (c *cursor) rest() bool { return c.take(restMark) && c.value() }

func (c *cursor) tied() bool {
	return c.take(tiedMark) && each(c.place, c.accidental, c.color, c.stem, c.oblique, c.last)
}

func (c *cursor) mensural() bool { return each(c.mens, c.stroke) }

func (c *cursor) proportion() bool {
	return c.number(&c.sign.N) && c.take(ratioMark) && c.number(&c.sign.D)
}

func (c *cursor) clef() bool {
	return c.take(clefMark) && c.step() && c.number(&c.sign.Clef.Line)
}

func (c *cursor) key() bool { return c.take(keyMark) && c.number(&c.sign.N) }

func (c *cursor) closing() bool { return c.take(closeMark) && c.number(&c.sign.N) }

// value takes the letter of a value.
func (c *cursor) value() bool {
	for v := api.Maxima; v <= api.Semifusa; v++ {
		if letter, _ := Letter(v); c.take(letter) {
			c.sign.Value = v
			return true
		}
	}
	return false
}

// place takes a number that may be below 0.
func (c *cursor) place() bool {
	minus := ""
	if c.take("-") {
		minus = "-"
	}
	n, is := words.Signed(minus + c.digits())
	c.sign.Place = n
	return is
}

// accidental takes the mark of an accidental, if there is one.
func (c *cursor) accidental() bool {
	if at, is := c.oneOf(accidentals()); is {
		c.sign.Acc = at + api.Flat
	}
	return true
}

// stem takes the mark of a stem, if there is one.
func (c *cursor) stem() bool {
	c.sign.Stem, _ = c.oneOf(stems())
	return true
}

// color takes the mark of color, if there is one.
func (c *cursor) color() bool {
	c.sign.Color = c.take(colorMark)
	return true
}

// oblique takes the mark of an oblique note, if there is one.
func (c *cursor) oblique() bool {
	c.sign.Oblique = c.take(obliqueMark)
	return true
}

// last takes the mark of the last note of a ligature, if there is one.
func (c *cursor) last() bool {
	c.sign.Last = c.take(lastMark)
	return true
}

// stroke takes a stroke, if there is one.
func (c *cursor) stroke() bool {
	c.sign.Stroke = c.take(strokeMark)
	return true
}

// step takes the letter of a clef.
func (c *cursor) step() bool {
	step, is := c.oneOf(clefs())
	c.sign.Clef.Step = step
	return is
}

// mens takes the text of a mensuration with what encloses it.
func (c *cursor) mens() bool {
	if !c.take(openMens) {
		return false
	}
	text, left, is := strings.Cut(c.left, closeMens)
	m, e := mens.Parse(text)
	c.left, c.sign.Mens = left, m
	return is && e == api.OK
}

// number takes a number, from 0 on, into n.
func (c *cursor) number(n *int) bool {
	number, is := words.Number(c.digits())
	*n = number
	return is
}

// digits takes all digits up to the next other byte.
func (c *cursor) digits() string {
	left := strings.TrimLeft(c.left, "0123456789")
	digits := c.left[:len(c.left)-len(left)]
	c.left = left
	return digits
}

// oneOf takes the one of the marks that comes next, and returns its number.
func (c *cursor) oneOf(list marks) (int, bool) {
	for n, mark := range list {
		if mark != "" && c.take(mark) {
			return n, true
		}
	}
	return 0, false
}

// take takes this text, if it comes next.
func (c *cursor) take(text string) bool {
	left, is := strings.CutPrefix(c.left, text)
	c.left = left
	return is
}
