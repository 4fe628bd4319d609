package words

// The classes of bytes.
const (
	stray     = '?' // stands in comments only
	blank     = ' '
	quote     = '"'
	semicolon = ';'
	letter    = 'a' // a to z
	digit     = '0'
	hyphen    = '-'
	other     = '!' // another one of 33 to 126
)

const strays = "????????????????????????????????"

// classes has the class of each byte at the place of the byte, 32 bytes in a line.
const classes = strays +
	" !\"!!!!!!!!!!-!!0000000000!;!!!!" +
	"!!!!!!!!!!!!!!!!!!!!!!!!!!!!!!!!" +
	"!aaaaaaaaaaaaaaaaaaaaaaaaaa!!!!?" +
	strays + strays + strays + strays

func isBlank(class byte) bool { return class == blank }

// isPlain reports whether bytes of the class are parts of plain words.
func isPlain(class byte) bool {
	switch class {
	case letter, digit, hyphen, other:
		return true
	}
	return false
}

// isQuotable reports whether bytes of the class may stand between quotes.
func isQuotable(class byte) bool { return class != stray && class != quote }

// isNaming reports whether bytes of the class are parts of names.
func isNaming(class byte) bool { return class == letter || class == digit || class == hyphen }

// run returns how many bytes at the beginning of s are of a class that is wanted.
func run(s string, wanted func(class byte) bool) int {
	for i := range len(s) {
		if !wanted(classes[s[i]]) {
			return i
		}
	}
	return len(s)
}
