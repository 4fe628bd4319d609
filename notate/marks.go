package notate

import "tactus/api"

// marks has the mark of each number of a field at its place; an empty one stands for no mark.
type marks [5]string

// accidentals returns the marks of the accidentals, from Flat on.
func accidentals() marks { return marks{"b", "", "#", "n"} }

// stems returns the marks of the stems.
func stems() marks { return marks{api.StemUp: "^", api.StemDown: "v", api.StemRight: ">"} }

// clefs returns the marks of the clefs by their steps.
func clefs() marks { return marks{0: "C", 3: "F", 4: "G"} }

// The marks that stand alone, or in front of a number.
const (
	restMark    = "r"
	tiedMark    = "t"
	colorMark   = "*"
	obliqueMark = "~"
	lastMark    = "!"
	openMens    = "("
	closeMens   = ")"
	strokeMark  = "|"
	ratioMark   = "/"
	clefMark    = "@"
	keyMark     = "&"
	closeMark   = "]"
)
