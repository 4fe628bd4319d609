package notate

import (
	"slices"

	"tactus/api"
	"tactus/sign"
	"tactus/words"
)

const (
	partWord  = "part"
	endWord   = "end"
	headWords = 2
	rowSigns  = 16
)

// Text returns the text of p.
func Text(p api.Part) (string, api.Errno) {
	if e, _ := sign.Check(p); e != api.OK {
		return "", e
	}
	rows := []api.Row{rowOf(partWord, p.Name)}
	for signs := range slices.Chunk(p.Signs, rowSigns) {
		texts := make([]string, len(signs))
		for i, s := range signs {
			texts[i], _ = Word(s)
		}
		rows = append(rows, rowOf(texts...))
	}
	return words.Text(append(rows, rowOf(endWord)))
}

// Parse returns the part that the text describes, or the first fault.
func Parse(text string) (api.Part, api.Fault) {
	rows, fault := words.Rows(text)
	if fault.Err != api.OK {
		return api.Part{}, fault
	}
	if len(rows) == 0 {
		return api.Part{}, api.Fault{Err: api.ErrMissing, At: len(text)}
	}
	head := rows[0].Words
	if fault := checkHead(head); fault.Err != api.OK {
		return api.Part{}, fault
	}
	signs, offsets, fault := body(rows[1:], len(text))
	if fault.Err != api.OK {
		return api.Part{}, fault
	}
	p := api.Part{Name: head[1].Text, Signs: signs}
	if e, wrong := sign.Check(p); e != api.OK {
		return api.Part{}, api.Fault{Err: e, At: offsets[wrong]}
	}
	return p, api.Fault{}
}

// checkHead returns the fault of the words of the first row.
func checkHead(head []api.Word) api.Fault {
	if !isPlain(head[0], partWord) || len(head) != headWords {
		return api.Fault{Err: api.ErrForm, At: head[0].At}
	}
	if head[1].Quoted || !words.Name(head[1].Text) {
		return api.Fault{Err: api.ErrName, At: head[1].At}
	}
	return api.Fault{}
}

// body returns the signs of the rows behind the first one, and the offsets of their words, or the first fault in a
// text of this length.
func body(rows []api.Row, length int) ([]api.Sign, []int, api.Fault) {
	var signs []api.Sign
	var offsets []int
	for i, row := range rows {
		if isPlain(row.Words[0], endWord) {
			return signs, offsets, checkEnd(row.Words, rows[i+1:])
		}
		for _, word := range row.Words {
			s, e := signOf(word)
			if e != api.OK {
				return nil, nil, api.Fault{Err: e, At: word.At}
			}
			signs, offsets = append(signs, s), append(offsets, word.At)
		}
	}
	return nil, nil, api.Fault{Err: api.ErrMissing, At: length}
}

// checkEnd returns the fault of the words of the row end and the rows behind it.
func checkEnd(end []api.Word, behind []api.Row) api.Fault {
	if len(end) > 1 {
		return api.Fault{Err: api.ErrForm, At: end[1].At}
	}
	if len(behind) > 0 {
		return api.Fault{Err: api.ErrForm, At: behind[0].Words[0].At}
	}
	return api.Fault{}
}

// signOf returns the sign of a word of a text.
func signOf(word api.Word) (api.Sign, api.Errno) {
	if word.Quoted {
		return api.Sign{}, api.ErrForm
	}
	return Sign(word.Text)
}

// isPlain tells whether a word is not quoted and has this text.
func isPlain(word api.Word, text string) bool { return !word.Quoted && word.Text == text }

// rowOf returns a row of words that are not quoted.
func rowOf(texts ...string) api.Row {
	var row api.Row
	for _, text := range texts {
		row.Words = append(row.Words, api.Word{Text: text})
	}
	return row
}
