package lex_test

import (
	"fmt"
	"math/big"
	"math/rand"
	"reflect"
	"regexp"
	"slices"
	"strings"
	"testing"
	"unicode/utf8"
	"unsafe"

	"codicil/api"
	"codicil/lex"
)

// keys are the chapter's keywords, signs its signs, blanks its blanks.
var (
	keys   = strings.Fields("ALL AND AS BY CREATE DELETE DESC FALSE FROM HISTORY IN INDEX INSERT INTO IS NOT NULL ON OR ORDER SELECT SET TABLE TRUE UPDATE WHERE")
	signs  = strings.Fields("<> <= >= = < > + - * ( ) [ ] { } , : .")
	blanks = []string{" ", "\t", "\n", "\r"}
)

func word(s string) api.Token { return api.Token{Kind: api.TokenWord, Text: s} }

func key(s string) api.Token { return api.Token{Kind: api.TokenKey, Text: s} }

func whole(n int64) api.Token { return api.Token{Kind: api.TokenInt, N: n} }

func text(s string) api.Token { return api.Token{Kind: api.TokenText, Text: s} }

func sign(s string) api.Token { return api.Token{Kind: api.TokenSign, Text: s} }

func at(place int, t api.Token) api.Token {
	t.At = place
	return t
}

func xs(n int) string { return strings.Repeat("x", n) }

// show is what a failure tells of something that may be long.
func show(x any) string {
	s := fmt.Sprintf("%q", fmt.Sprint(x))
	return s[:min(len(s), 300)]
}

// reads fails, unless a text has just these tokens, at these places.
func reads(t *testing.T, s string, want ...api.Token) {
	t.Helper()
	l, why, place := lex.Lex(s)
	if why != api.OK || place != 0 || !slices.Equal(l, want) {
		t.Errorf("Lex(%s): %s, error %d at %d, not %s", show(s), show(l), why, place, show(want))
	}
}

// refuses fails, unless a text has just this error at this place.
func refuses(t *testing.T, s string, want api.Errno, place int) {
	t.Helper()
	if l, why, at := lex.Lex(s); len(l) != 0 || why != want || at != place {
		t.Errorf("Lex(%s): %s, error %d at %d, not %d at %d", show(s), show(l), why, at, want, place)
	}
}

// isAsSaid fails, unless Lex answers of a text what the chapter says.
func isAsSaid(t *testing.T, s string) {
	t.Helper()
	want, why, place := said(s)
	if why != api.OK {
		refuses(t, s, why, place)
		return
	}
	reads(t, s, want...)
}

// What follows are the chapter's words to the letter, by other means than the package's.

var (
	blankForm  = regexp.MustCompile(`^[ \t\n\r]+`)
	wordForm   = regexp.MustCompile(`^[A-Za-z_][A-Za-z0-9_]*`)
	numberForm = regexp.MustCompile(`^[0-9]+`)
	behindForm = regexp.MustCompile(`^[A-Za-z_]`)
	signForm   = regexp.MustCompile(`^(<>|<=|>=|[=<>+\-*()\[\]{},:.])`)
)

// said is Lex of any text.
func said(s string) ([]api.Token, api.Errno, int) {
	if len(s) > 16384 {
		return nil, api.ErrLong, 0
	}
	var out []api.Token
	for at := 0; at < len(s); {
		rest := s[at:]
		if b := blankForm.FindString(rest); b != "" {
			at += len(b)
			continue
		}
		t, size, why := saidToken(rest)
		if why != api.OK {
			return nil, why, at
		}
		t.At = at
		out = append(out, t)
		at += size
	}
	return out, api.OK, 0
}

func saidToken(rest string) (api.Token, int, api.Errno) {
	if rest[0] == '\'' {
		return saidText(rest)
	}
	if w := wordForm.FindString(rest); w != "" {
		if slices.Contains(keys, strings.ToUpper(w)) {
			return key(strings.ToUpper(w)), len(w), api.OK
		}
		if len(w) <= 64 {
			return word(w), len(w), api.OK
		}
	} else if d := numberForm.FindString(rest); d != "" {
		n, _ := new(big.Int).SetString(d, 10)
		if n.IsInt64() && n.String() == d && !behindForm.MatchString(rest[len(d):]) {
			return whole(n.Int64()), len(d), api.OK
		}
	} else if g := signForm.FindString(rest); g != "" {
		return sign(g), len(g), api.OK
	}
	return api.Token{}, 0, api.ErrSyntax
}

func saidText(rest string) (api.Token, int, api.Errno) {
	// Behind the first ', those that stand for one are taken out of sight, so that the first one left ends it.
	size := strings.IndexByte(strings.ReplaceAll(rest[1:], "''", ".."), '\'')
	if size < 0 {
		return api.Token{}, 0, api.ErrSyntax
	}
	s := strings.ReplaceAll(rest[1:1+size], "''", "'")
	if len(s) > 1024 {
		return api.Token{}, 0, api.ErrLong
	}
	if !utf8.ValidString(s) {
		return api.Token{}, 0, api.ErrUtf
	}
	return text(s), size + 2, api.OK
}

// saidShow is Show of any token.
func saidShow(t api.Token) (string, api.Errno) {
	switch {
	case t.Kind == api.TokenWord && t.N == 0 && wordForm.FindString(t.Text) == t.Text && t.Text != "" && len(t.Text) <= 64 && !slices.Contains(keys, strings.ToUpper(t.Text)),
		t.Kind == api.TokenKey && t.N == 0 && slices.Contains(keys, t.Text),
		t.Kind == api.TokenSign && t.N == 0 && slices.Contains(signs, t.Text):
		return t.Text, api.OK
	case t.Kind == api.TokenInt && t.N >= 0 && t.Text == "":
		return fmt.Sprint(t.N), api.OK
	case t.Kind == api.TokenText && t.N == 0 && len(t.Text) <= 1024 && utf8.ValidString(t.Text):
		out := "'"
		for _, c := range []byte(t.Text) {
			out += string([]byte{c})
			if c == '\'' {
				out += "'"
			}
		}
		return out + "'", api.OK
	}
	return "", api.ErrSyntax
}

// anyToken is one that Lex may answer.
func anyToken(r *rand.Rand) api.Token {
	switch r.Intn(5) {
	case 0:
		return key(keys[r.Intn(len(keys))])
	case 1:
		return whole(int64(r.Uint64()>>1) >> r.Intn(64))
	case 2:
		s := ""
		for range r.Intn(6) {
			s += []string{"'", "''", "a", "é", " ", "\n", "\x00", "SELECT", "--"}[r.Intn(9)]
		}
		return text(s)
	case 3:
		return sign(signs[r.Intn(len(signs))])
	}
	for {
		s := string("abzABZ_"[r.Intn(7)])
		for range r.Intn(4) * r.Intn(8) {
			s += string("abzABZ_019"[r.Intn(10)])
		}
		if !slices.Contains(keys, strings.ToUpper(s)) {
			return word(s)
		}
	}
}

// anyTokens are some that Lex may answer.
func anyTokens(r *rand.Rand) []api.Token {
	var out []api.Token
	for range r.Intn(12) {
		out = append(out, anyToken(r))
	}
	return out
}

// shown fails, unless a token has a text, which it is.
func shown(t *testing.T, k api.Token) string {
	t.Helper()
	s, why := lex.Show(k)
	if why != api.OK {
		t.Fatalf("Show(%s): error %d", show(k), why)
	}
	return s
}

// anyBlanks are some, or none.
func anyBlanks(r *rand.Rand, least int) string {
	out := ""
	for range least + r.Intn(4) {
		out += blanks[r.Intn(len(blanks))]
	}
	return out
}

// placeless are tokens without their places.
func placeless(l []api.Token) []api.Token {
	var out []api.Token
	for _, t := range l {
		out = append(out, at(0, t))
	}
	return out
}

// cases are a text in each case of its letters.
func cases(s string) []string {
	if s == "" {
		return []string{""}
	}
	var out []string
	for _, rest := range cases(s[1:]) {
		out = append(out, strings.ToUpper(s[:1])+rest, strings.ToLower(s[:1])+rest)
	}
	return out
}

// lent is a text whose bytes can be changed behind its back.
func lent(s string) (string, func()) {
	b := []byte(s)
	return unsafe.String(&b[0], len(b)), func() {
		for i := range b {
			b[i] = '!'
		}
	}
}

// span is a piece of memory.
type span struct{ from, to uintptr }

// spans are the pieces of memory in which texts and lists of x lie.
func spans(x reflect.Value) []span {
	var out []span
	switch x.Kind() {
	case reflect.String:
		if x.Len() > 0 {
			from := uintptr(x.UnsafePointer())
			out = append(out, span{from, from + uintptr(x.Len())})
		}
	case reflect.Slice:
		if x.Cap() > 0 {
			from := x.Pointer()
			out = append(out, span{from, from + uintptr(x.Cap())*x.Type().Elem().Size()})
		}
		for i := range x.Len() {
			out = append(out, spans(x.Index(i))...)
		}
	case reflect.Struct:
		for i := range x.NumField() {
			out = append(out, spans(x.Field(i))...)
		}
	}
	return out
}

// apart fails, if an answer shares memory with itself or with one of the others.
func apart(t *testing.T, answer any, others ...any) {
	t.Helper()
	own := spans(reflect.ValueOf(answer))
	var all []span
	for _, o := range others {
		all = append(all, spans(reflect.ValueOf(o))...)
	}
	for i, a := range own {
		for _, b := range append(all[:len(all):len(all)], own[i+1:]...) {
			if a.from < b.to && b.from < a.to {
				t.Fatal("shared memory in", show(answer))
			}
		}
	}
}
