package notate

import (
	"strconv"
	"strings"

	"tactus/api"
	"tactus/mens"
)

// writer builds the text of a valid sign.
type writer struct {
	strings.Builder
	sign api.Sign
}

func (w *writer) note() {
	w.value()
	w.placed()
}

func (w *writer) rest() {
	w.WriteString(restMark)
	w.value()
}

func (w *writer) tied() {
	w.WriteString(tiedMark)
	w.placed()
	w.WriteString(stems()[w.sign.Stem])
	w.mark(w.sign.Oblique, obliqueMark)
	w.mark(w.sign.Last, lastMark)
}

func (w *writer) mensural() {
	text, _ := mens.Text(w.sign.Mens)
	w.WriteString(openMens + text + closeMens)
	w.mark(w.sign.Stroke, strokeMark)
}

func (w *writer) proportion() {
	w.number(w.sign.N)
	w.WriteString(ratioMark)
	w.number(w.sign.D)
}

func (w *writer) clef() {
	w.WriteString(clefMark + clefs()[w.sign.Clef.Step])
	w.number(w.sign.Clef.Line)
}

func (w *writer) key() {
	w.WriteString(keyMark)
	w.number(w.sign.N)
}

func (w *writer) closing() {
	w.WriteString(closeMark)
	w.number(w.sign.N)
}

// value writes the letter of the value.
func (w *writer) value() {
	letter, _ := Letter(w.sign.Value)
	w.WriteString(letter)
}

// placed writes the place, the accidental and the color.
func (w *writer) placed() {
	w.number(w.sign.Place)
	w.WriteString(accidentals()[w.sign.Acc-api.Flat])
	w.mark(w.sign.Color, colorMark)
}

// number writes a number in digits.
func (w *writer) number(n int) { w.WriteString(strconv.Itoa(n)) }

// mark writes a mark if the sign has it.
func (w *writer) mark(has bool, mark string) {
	if has {
		w.WriteString(mark)
	}
}
