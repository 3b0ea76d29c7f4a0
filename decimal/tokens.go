package decimal

import (
	"strings"

	"loftblock/api"
)

// What a text may begin with, beside the kinds of tokens, which are numbered from 1 on.
const (
	nothing = -1
	blank   = 0
)

// Tokens returns the tokens of a text, or the position at which it has none.
func Tokens(s string) ([]api.Token, api.Pos, api.Errno) {
	if len(s) > api.MaxText {
		return nil, api.Pos{}, api.ErrFull
	}
	var list []api.Token
	at := api.Pos{Line: 1, Column: 1}
	for s != "" {
		kind, size := first(s)
		switch kind {
		case nothing:
			return nil, at, api.ErrForm
		case blank:
		case api.TokLine:
			list = append(list, api.Token{Kind: kind, At: at})
		default:
			list = append(list, api.Token{Kind: kind, Text: s[:size], At: at})
		}
		at.Column += size
		if kind == api.TokLine {
			at = api.Pos{Line: at.Line + 1, Column: 1}
		}
		s = s[size:]
	}
	return append(list, api.Token{Kind: api.TokEnd, At: at}), api.Pos{}, api.OK
}

// IsName reports whether s is a name.
func IsName(s string) bool {
	if s == "" {
		return false
	}
	kind, size := first(s)
	return kind == api.TokName && size == len(s)
}

// first returns the kind of what s, which is not empty, begins with, and its number of bytes.
func first(s string) (kind, size int) {
	switch c := s[0]; c {
	case ' ', '\t':
		return blank, 1
	case '#':
		return blank, comment(s)
	case '\n':
		return api.TokLine, 1
	case '>', '<', ':':
		if len(s) > 1 && s[1] == '=' {
			return api.TokSymbol, 2
		}
		return api.TokSymbol, 1
	case '-', '+', ',', ';', '/', '=', '(', ')', '*':
		return api.TokSymbol, 1
	default:
		if isDigit(c) {
			return api.TokNumber, number(s)
		}
		if isLetter(c) {
			return word(s)
		}
		return nothing, 0
	}
}

// comment returns the size of the comment that s begins with; the newline after it is a token of its own.
func comment(s string) int {
	if end := strings.IndexByte(s, '\n'); end >= 0 {
		return end
	}
	return len(s)
}

// number returns the size of the number that s begins with. A point belongs to it only if a digit follows.
func number(s string) int {
	whole := prefix(s, isDigit)
	if whole == len(s) || s[whole] != '.' {
		return whole
	}
	part := prefix(s[whole+1:], isDigit)
	if part == 0 {
		return whole
	}
	return whole + 1 + part
}

func word(s string) (kind, size int) {
	size = prefix(s, isWord)
	if size > api.MaxName {
		return nothing, 0
	}
	return api.TokName, size
}

// prefix counts the bytes at the beginning of s for which is holds.
func prefix(s string, is func(byte) bool) int {
	for i := range len(s) {
		if !is(s[i]) {
			return i
		}
	}
	return len(s)
}

func isLetter(c byte) bool {
	return c >= 'a' && c <= 'z' || c >= 'A' && c <= 'Z'
}

func isDigit(c byte) bool {
	return c >= '0' && c <= '9'
}

func isWord(c byte) bool {
	return isLetter(c) || isDigit(c) || c == '_'
}
