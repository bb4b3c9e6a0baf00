package lex

import (
	"strconv"
	"strings"
	"unicode/utf8"

	"codicil/api"
)

// maxWord is how many bytes a word has that is no keyword.
const maxWord = 64

// reader reads tokens of some kind: whether one begins a text, and it, with how many bytes it takes there.
type reader struct {
	begins func(s string) bool
	read   func(s string) (api.Token, int, api.Errno)
}

func readers() []reader {
	return []reader{
		{func(s string) bool { return isLetter(s[0]) }, readWord},
		{func(s string) bool { return isDigit(s[0]) }, readNumber},
		{func(s string) bool { return s[0] == '\'' }, readText},
		{func(s string) bool { return signSize(s) > 0 }, readSign},
	}
}

// first is the token with which a text begins, which is not empty.
func first(all []reader, s string) (api.Token, int, api.Errno) {
	for _, r := range all {
		if r.begins(s) {
			return r.read(s)
		}
	}
	return api.Token{}, 0, api.ErrSyntax
}

func readWord(s string) (api.Token, int, api.Errno) {
	word := s[:wordSize(s)]
	switch {
	case Keyword(word):
		return api.Token{Kind: api.TokenKey, Text: great(word)}, len(word), api.OK
	case len(word) > maxWord:
		return api.Token{}, 0, api.ErrSyntax
	}
	return api.Token{Kind: api.TokenWord, Text: strings.Clone(word)}, len(word), api.OK
}

func readNumber(s string) (api.Token, int, api.Errno) {
	// Letters right behind are taken along, which makes it none.
	digits := s[:wordSize(s)]
	n, err := strconv.ParseInt(digits, 10, 64)
	if err != nil || strconv.FormatInt(n, 10) != digits {
		return api.Token{}, 0, api.ErrSyntax
	}
	return api.Token{Kind: api.TokenInt, N: n}, len(digits), api.OK
}

func readText(s string) (api.Token, int, api.Errno) {
	var out strings.Builder
	for i := 1; i < len(s); i++ {
		if s[i] == '\'' {
			i++
			if i == len(s) || s[i] != '\'' {
				return textToken(out.String(), i)
			}
		}
		out.WriteByte(s[i])
	}
	return api.Token{}, 0, api.ErrSyntax
}

// textToken is the token of a text that takes so many bytes.
func textToken(text string, size int) (api.Token, int, api.Errno) {
	switch {
	case len(text) > api.MaxText:
		return api.Token{}, 0, api.ErrLong
	case !utf8.ValidString(text):
		return api.Token{}, 0, api.ErrUtf
	}
	return api.Token{Kind: api.TokenText, Text: text}, size, api.OK
}

func readSign(s string) (api.Token, int, api.Errno) {
	size := signSize(s)
	return api.Token{Kind: api.TokenSign, Text: strings.Clone(s[:size])}, size, api.OK
}

// signSize is how many bytes the sign takes with which a text begins; 0, if there is none.
func signSize(s string) int {
	switch {
	case strings.HasPrefix(s, "<>"), strings.HasPrefix(s, "<="), strings.HasPrefix(s, ">="):
		return 2
	case strings.Contains("=<>+-*()[]{},:.", s[:1]):
		return 1
	}
	return 0
}

// wordSize is how many letters, digits and _ a text begins with.
func wordSize(s string) int {
	size := 0
	for size < len(s) && (isLetter(s[size]) || isDigit(s[size])) {
		size++
	}
	return size
}

// isLetter tells whether a word may begin with b.
func isLetter(b byte) bool {
	return b >= 'a' && b <= 'z' || b >= 'A' && b <= 'Z' || b == '_'
}

func isDigit(b byte) bool {
	return b >= '0' && b <= '9'
}
