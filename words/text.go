package words

import (
	"strings"

	"tactus/api"
)

// Text writes rows, with a line feed after each of them.
func Text(rows []api.Row) (string, api.Errno) {
	var text strings.Builder
	for _, row := range rows {
		line, e := rowLine(row.Words)
		if e != api.OK {
			return "", e
		}
		text.WriteString(line)
		text.WriteByte('\n')
		if text.Len() > api.MaxText {
			return "", api.ErrLong
		}
	}
	return text.String(), api.OK
}

// rowLine returns the line of a row with these words, without a line feed.
func rowLine(list []api.Word) (string, api.Errno) {
	if len(list) == 0 {
		return "", api.ErrForm
	}
	for _, word := range list {
		if !isWord(word) {
			return "", api.ErrForm
		}
	}
	var line strings.Builder
	for i, word := range list {
		if i > 0 {
			line.WriteByte(' ')
		}
		line.WriteString(written(word))
		if line.Len() > api.MaxLine {
			return "", api.ErrLong
		}
	}
	return line.String(), api.OK
}

// isWord reports whether a word with this text can be written.
func isWord(word api.Word) bool {
	if word.Quoted {
		return run(word.Text, isQuotable) == len(word.Text)
	}
	return word.Text != "" && run(word.Text, isPlain) == len(word.Text)
}

// written returns a word as it is written in a line.
func written(word api.Word) string {
	if word.Quoted {
		return `"` + word.Text + `"`
	}
	return word.Text
}
