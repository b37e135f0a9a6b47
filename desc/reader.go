package desc

import "pinfold/api"

// reader goes over a text; the place that it embeds is how far it is.
type reader struct {
	api.Place
	text string
}

// begin is a reader at the beginning of text.
func begin(text string) reader {
	return reader{Place: api.Place{Off: 0, Line: 1, Col: 1}, text: text}
}

// more tells whether a byte is left.
func (r *reader) more() bool { return r.Off < len(r.text) }

// here is the byte that the reader is at.
func (r *reader) here() byte { return r.text[r.Off] }

// step goes past a byte.
func (r *reader) step() {
	if r.here() == '\n' {
		r.Line++
		r.Col = 0
	}
	r.Off++
	r.Col++
}

// pass goes past all bytes that are of a kind.
func (r *reader) pass(isOf func(byte) bool) {
	for r.more() && isOf(r.here()) {
		r.step()
	}
}

// skip goes past blanks and notes.
func (r *reader) skip() {
	for r.pass(isBlank); r.more() && r.here() == '#'; r.pass(isBlank) {
		r.pass(isNoteByte)
	}
}

// next reads the token that begins at the byte that the reader is at; with an error, At of the token is its place.
func (r *reader) next() (api.Token, api.Errno) {
	t := api.Token{At: r.Place}
	switch c := r.here(); {
	case isLetter(c):
		t.Kind = api.TokWord
		r.pass(isNameByte)
	case isDigit(c):
		t.Kind = api.TokList
		r.pass(isListByte)
	case isSign(c):
		t.Kind = api.TokSign
		r.step()
	default:
		return t, api.ErrByte
	}
	t.Text = r.text[t.At.Off:r.Off]
	if t.Kind == api.TokWord && len(t.Text) > api.MaxName {
		return t, api.ErrBig
	}
	return t, api.OK
}

// isBlank tells whether c stands for nothing.
func isBlank(c byte) bool { return c == ' ' || c == '\t' || c == '\n' || c == '\r' }

// isNoteByte tells whether a note goes on with c.
func isNoteByte(c byte) bool { return c != '\n' }

// isLetter tells whether c is a small letter.
func isLetter(c byte) bool { return c >= 'a' && c <= 'z' }

// isDigit tells whether c is a decimal digit.
func isDigit(c byte) bool { return c >= '0' && c <= '9' }

// isNameByte tells whether a word goes on with c.
func isNameByte(c byte) bool { return isLetter(c) || isDigit(c) || c == '_' }

// isListByte tells whether a list goes on with c.
func isListByte(c byte) bool { return isDigit(c) || c == ',' || c == '-' }

// isSign tells whether c is a token by itself.
func isSign(c byte) bool { return c == '{' || c == '}' || c == ';' }
