package lex_test

import (
	"fmt"
	"math"
	"math/rand"
	"runtime"
	"slices"
	"strings"
	"testing"

	"codicil/api"
	"codicil/lex"
)

func TestExample(t *testing.T) {
	reads(t, "select a.b, 'it''s' <= 7",
		at(0, key("SELECT")), at(7, word("a")), at(8, sign(".")), at(9, word("b")), at(10, sign(",")), at(12, text("it's")), at(20, sign("<=")), at(23, whole(7)))
}

// 9.1: blanks stand anywhere, and are none without tokens; nothing else is one.
func TestBlanks(t *testing.T) {
	reads(t, "")
	for _, a := range blanks {
		reads(t, a)
		reads(t, a+"x", at(1, word("x")))
		reads(t, "x"+a, word("x"))
		reads(t, "x"+a+"y", word("x"), at(2, word("y")))
		reads(t, "1"+a+"2", whole(1), at(2, whole(2)))
		reads(t, "<"+a+">", sign("<"), at(2, sign(">")))
		reads(t, "'x'"+a+"'y'", text("x"), at(4, text("y")))
		for _, b := range blanks {
			reads(t, a+b+"x"+b+a, at(2, word("x")))
		}
	}
	for _, no := range []string{"\v", "\f", "\x00", "\x1f", "\x85", "\xa0", "\u00a0", "\u2028", "\ufeff", "/**/", "#", ";"} {
		refuses(t, no, api.ErrSyntax, 0)
		refuses(t, " x "+no+" y", api.ErrSyntax, 3)
	}
	reads(t, "x -- y", word("x"), at(2, sign("-")), at(3, sign("-")), at(5, word("y")))
}

// 9.1: each byte alone, ahead of a word, behind one.
func TestEachByte(t *testing.T) {
	for b := range 256 {
		c := string([]byte{byte(b)})
		for _, s := range []string{c, c + "x", "x" + c, "x " + c, c + " x", "7" + c, c + "7", "<" + c, c + ">", "'" + c + "'", "'" + c, c + "'"} {
			isAsSaid(t, s)
		}
		begins := c >= "a" && c <= "z" || c >= "A" && c <= "Z" || c >= "0" && c <= "9" || c == "_" || slices.Contains(signs, c) || slices.Contains(blanks, c)
		if _, why, _ := lex.Lex(c); (why == api.OK) != begins {
			t.Errorf("Lex(%q): error %d", c, why)
		}
	}
}

// 9.1: each sign, and the longest one of two that begin alike.
func TestSigns(t *testing.T) {
	for _, a := range signs {
		reads(t, a, sign(a))
		reads(t, "x"+a+"7", word("x"), at(1, sign(a)), at(1+len(a), whole(7)))
		for _, b := range signs {
			reads(t, a+" "+b, sign(a), at(len(a)+1, sign(b)))
			if !slices.Contains([]string{"<>", "<=", ">="}, a+b[:1]) {
				reads(t, a+b, sign(a), at(len(a), sign(b)))
			}
			for _, c := range signs {
				isAsSaid(t, a+b+c)
			}
		}
	}
	reads(t, "<>", sign("<>"))
	reads(t, "< >", sign("<"), at(2, sign(">")))
	reads(t, "<=>", sign("<="), at(2, sign(">")))
	reads(t, "<>=", sign("<>"), at(2, sign("=")))
	reads(t, "<<>", sign("<"), at(1, sign("<>")))
	reads(t, ">>=", sign(">"), at(1, sign(">=")))
	reads(t, "><", sign(">"), at(1, sign("<")))
	reads(t, "=<", sign("="), at(1, sign("<")))
	reads(t, "=>", sign("="), at(1, sign(">")))
	reads(t, "<==", sign("<="), at(2, sign("=")))
	refuses(t, "!=", api.ErrSyntax, 0)
	refuses(t, "a/b", api.ErrSyntax, 1)
}

// 9.1: words of 64 bytes and of one more, whatever they begin with.
func TestWords(t *testing.T) {
	for _, w := range []string{"a", "Z", "_", "__", "a1", "_1", "x_1", "aB_9", "selec", "selects", "select_", "select1", "_select", "aselect", "wher", "i", "n"} {
		reads(t, w, word(w))
	}
	for _, ahead := range []string{"x", "_", "A9", "select", "OR"} {
		for _, behind := range []string{"", " ", "+1", "'a'"} {
			w := ahead + xs(64-len(ahead))
			if l, why, _ := lex.Lex(" " + w + behind); why != api.OK || l[0] != at(1, word(w)) {
				t.Errorf("Lex of a word of 64 bytes: %v, error %d", l, why)
			}
			refuses(t, " "+w+"x"+behind, api.ErrSyntax, 1)
			refuses(t, " "+w+"0"+behind, api.ErrSyntax, 1)
			refuses(t, " "+w+"_"+behind, api.ErrSyntax, 1)
			refuses(t, w+xs(5000)+behind, api.ErrSyntax, 0)
		}
		w := ahead + xs(64-len(ahead))
		reads(t, w+" "+w, word(w), at(65, word(w)))
	}
	refuses(t, "é", api.ErrSyntax, 0)
	refuses(t, "aé", api.ErrSyntax, 1)
	refuses(t, "a$", api.ErrSyntax, 1)
	refuses(t, `"a"`, api.ErrSyntax, 0)
	refuses(t, "`a`", api.ErrSyntax, 0)
}

// 9.1, 9.2: each keyword in each case of its letters; what only begins or ends as one does is none.
func TestKeywords(t *testing.T) {
	for _, k := range keys {
		for _, s := range cases(k) {
			reads(t, s, key(k))
			reads(t, "("+s+"7x)", sign("("), at(1, word(s+"7x")), at(1+len(s)+2, sign(")")))
			if !lex.Keyword(s) {
				t.Errorf("Keyword(%q)", s)
			}
		}
		for _, s := range []string{k + "x", k + "_", k + "0", k + k, "x" + k, "_" + k, k[:len(k)-1], k[1:], strings.ToLower(k) + "s", k[:1] + "_" + k[1:]} {
			is := slices.Contains(keys, strings.ToUpper(s))
			if lex.Keyword(s) != is {
				t.Errorf("Keyword(%q): %v", s, !is)
			}
			isAsSaid(t, s)
			if !is {
				reads(t, s, word(s))
			}
		}
		for _, s := range []string{" " + k, k + " ", k + "\x00", "'" + k + "'", k[:1] + " " + k[1:]} {
			if lex.Keyword(s) {
				t.Errorf("Keyword(%q)", s)
			}
		}
	}
	for _, s := range []string{"", " ", "\xff", "7", "a", "\u017felect", "hi\u017ftory", "\u0131n", "\u0130n", "I\u0307N", "\u0131s", "a\u017f", "SELECT FROM", strings.Repeat("SELECT", 1<<16)} {
		if lex.Keyword(s) {
			t.Errorf("Keyword(%s)", show(s))
		}
	}
	refuses(t, "\u017felect", api.ErrSyntax, 0)
	refuses(t, "a\u017f", api.ErrSyntax, 1)
}

// 9.2: of all short words just the keywords are some.
func TestAllShortWords(t *testing.T) {
	const letters = "_aAbBcCdDeEfFgGhHiIjJkKlLmMnNoOpPqQrRsStTuUvVwWxXyYzZ09"
	for i := range letters {
		for j := range letters {
			for k := range letters {
				for _, s := range []string{letters[i : i+1], letters[i:i+1] + letters[j:j+1], letters[i:i+1] + letters[j:j+1] + letters[k:k+1]} {
					if is := slices.Contains(keys, strings.ToUpper(s)); lex.Keyword(s) != is {
						t.Fatalf("Keyword(%q): %v", s, !is)
					}
				}
			}
		}
	}
}

// 9.1: numbers at 0, at 2^63 - 1 and one more, with needless noughts, with letters right behind.
func TestNumbers(t *testing.T) {
	for _, n := range []int64{0, 1, 7, 9, 10, 100, 1 << 31, 1 << 32, 1 << 53, math.MaxInt64 - 1, math.MaxInt64} {
		s := fmt.Sprint(n)
		reads(t, s, whole(n))
		reads(t, "-"+s+"+", sign("-"), at(1, whole(n)), at(1+len(s), sign("+")))
		reads(t, s+"'a'", whole(n), at(len(s), text("a")))
		reads(t, s+"."+s, whole(n), at(len(s), sign(".")), at(len(s)+1, whole(n)))
		refuses(t, s+"\u00e9", api.ErrSyntax, len(s))
		for _, behind := range []string{"a", "z", "A", "Z", "_", "_0", "e5", "x1", "or", " ", ""} {
			if strings.TrimSpace(behind) != "" {
				refuses(t, " "+s+behind, api.ErrSyntax, 1)
			}
			refuses(t, " 0"+s+behind, api.ErrSyntax, 1)
		}
	}
	for _, s := range []string{"00", "01", "007", "0000000000000000000000", "00000000000000000009223372036854775807", "9223372036854775808", "9223372036854775809", "9999999999999999999", "10000000000000000000",
		"18446744073709551615", "18446744073709551616", "18446744073709551617", "36893488147419103232", strings.Repeat("9", 1000), "1" + strings.Repeat("0", 16000), "0x10", "0b1", "1_000", "1e3", "0o7"} {
		refuses(t, s, api.ErrSyntax, 0)
		refuses(t, "a "+s+" !", api.ErrSyntax, 2)
	}
}

// 9.1: texts that are empty, with a doubled ' at each place, that do not end.
func TestTexts(t *testing.T) {
	for s, want := range map[string]string{
		"''": "", "'a'": "a", "''''": "'", "''''''": "''", "'''a'": "'a", "'a'''": "a'", "'a''b'": "a'b", "'''a''b'''": "'a'b'", "'''''a'": "''a",
		"' '": " ", "'\n\r\t'": "\n\r\t", "'\x00'": "\x00", "'é€\U0010ffff'": "é€\U0010ffff", "'select'": "select", "'7'": "7", "'\\'": "\\", "'\"'": "\"", "'--'": "--", "'\ufffd'": "\ufffd",
	} {
		reads(t, s, text(want))
		reads(t, " "+s+" "+s+"x"+s, at(1, text(want)), at(2+len(s), text(want)), at(2+2*len(s), word("x")), at(3+2*len(s), text(want)))
	}
	for _, s := range []string{"'", "'a", "'''", "'a''", "''''' ", "'a''b", "'''a", "'a\n", "'\xff", "'a b c ; 7 !", "'" + xs(api.MaxText+1), "'" + xs(api.MaxText+1) + "\xff", "'" + strings.Repeat("'", 2000), "'" + xs(api.MaxBytes-4)} {
		refuses(t, s, api.ErrSyntax, 0)
		refuses(t, "x, "+s, api.ErrSyntax, 3)
	}
	reads(t, "'a' 'b'", text("a"), at(4, text("b")))
}

// 9.1: texts of MaxText bytes and of one more, counted as what they stand for.
func TestLongTexts(t *testing.T) {
	quotes := strings.Repeat("''", api.MaxText)
	for s, want := range map[string]string{
		xs(api.MaxText):                             xs(api.MaxText),
		quotes:                                      strings.Repeat("'", api.MaxText),
		"''" + xs(api.MaxText-1):                    "'" + xs(api.MaxText-1),
		xs(api.MaxText-1) + "''":                    xs(api.MaxText-1) + "'",
		strings.Repeat("é", api.MaxText/2):          strings.Repeat("é", api.MaxText/2),
		strings.Repeat("\U0010ffff", api.MaxText/4): strings.Repeat("\U0010ffff", api.MaxText/4),
	} {
		reads(t, "'"+s+"' ,", text(want), at(len(s)+3, sign(",")))
		for _, more := range []string{"x", "''", " "} {
			refuses(t, "a '"+s+more+"'", api.ErrLong, 2)
			refuses(t, "a '"+more+s+"' !", api.ErrLong, 2)
		}
	}
	refuses(t, "'"+xs(api.MaxBytes-2)+"'", api.ErrLong, 0)
}

// 9.1: texts that are no UTF-8, too long, or do not end, or all of these.
func TestWrongTexts(t *testing.T) {
	for _, no := range []string{"\xff", "\x80", "\xc3", "\xc3''\xa9", "\xe2\x82", "\xc0\x80", "\xc1\xbf", "\xe0\x80\x80", "\xed\xa0\x80", "\xed\xbf\xbf", "\xf0\x80\x80\x80", "\xf4\x90\x80\x80", "\xf8\x88\x80\x80\x80", "\xfe"} {
		for _, s := range []string{no, "a" + no, no + "a", "é" + no + "é", no + "''", "''" + no, xs(api.MaxText-len(no)) + no} {
			refuses(t, "x = '"+s+"'", api.ErrUtf, 4)
			refuses(t, "x = '"+s+"' 'b", api.ErrUtf, 4)
			refuses(t, "x = '"+s, api.ErrSyntax, 4)
			refuses(t, "x = '"+s+xs(api.MaxText)+"'", api.ErrLong, 4)
			refuses(t, "x = '"+s+xs(api.MaxText), api.ErrSyntax, 4)
		}
		refuses(t, no, api.ErrSyntax, 0)
	}
}

// 9.1: MaxBytes bytes and one more, whatever they are.
func TestTooLong(t *testing.T) {
	for _, s := range []string{" ", "x ", "(", "1 ", "'a' ", "''", "é", "!", "select ", "\xff", "x", "'"} {
		full := strings.Repeat(s, api.MaxBytes)[:api.MaxBytes]
		isAsSaid(t, full)
		isAsSaid(t, full[1:])
		refuses(t, full+full[:1], api.ErrLong, 0)
		refuses(t, full+" ", api.ErrLong, 0)
		refuses(t, " "+full, api.ErrLong, 0)
		refuses(t, full+full+full, api.ErrLong, 0)
	}
	l, why, _ := lex.Lex(strings.Repeat("(", api.MaxBytes))
	if why != api.OK || len(l) != api.MaxBytes || l[api.MaxBytes-1] != at(api.MaxBytes-1, sign("(")) {
		t.Errorf("Lex of MaxBytes signs: %d, error %d", len(l), why)
	}
	refuses(t, strings.Repeat(" ", api.MaxBytes-1)+"!", api.ErrSyntax, api.MaxBytes-1)
}

// 9.1, P3: of two errors the first one in the text.
func TestFirstError(t *testing.T) {
	wrong := []struct {
		s   string
		why api.Errno
	}{
		{"!", api.ErrSyntax}, {"01", api.ErrSyntax}, {"7a", api.ErrSyntax}, {xs(65), api.ErrSyntax}, {"9223372036854775808", api.ErrSyntax}, {"\xff", api.ErrSyntax},
		{"'" + xs(api.MaxText+1) + "'", api.ErrLong}, {"'\xff'", api.ErrUtf}, {"'\xff" + xs(api.MaxText) + "'", api.ErrLong},
	}
	for _, a := range wrong {
		for _, b := range wrong {
			for _, ahead := range []string{"", "a ", "\n\t'x' <="} {
				refuses(t, ahead+a.s+" "+b.s, a.why, len(ahead))
				refuses(t, ahead+a.s+" 'open", a.why, len(ahead))
			}
		}
	}
	refuses(t, "'open ! 01 '' \xff", api.ErrSyntax, 0)
}

// 9.1: all short texts of some bytes.
func TestAllShortTexts(t *testing.T) {
	const letters = "aR_0'<>=.\n!\xc3\xa9"
	var all func(s string, more int)
	all = func(s string, more int) {
		isAsSaid(t, s)
		if more > 0 && !t.Failed() {
			for i := range letters {
				all(s+letters[i:i+1], more-1)
			}
		}
	}
	all("", 4)
}

// 9.1: texts of many pieces.
func TestAnyTexts(t *testing.T) {
	pieces := append([]string{"a", "x_1", "0", "7", "10", "'", "''", "'a'", "'it''s'", "\xff", "é", "!", "select", "From", xs(63), xs(64), "9223372036854775807", "9223372036854775808", "'" + xs(1023)}, append(signs, blanks...)...)
	r := rand.New(rand.NewSource(91))
	for range 20000 {
		s := ""
		for range r.Intn(10) {
			s += pieces[r.Intn(len(pieces))]
			if r.Intn(2) == 0 {
				s += " "
			}
		}
		isAsSaid(t, s)
		if t.Failed() {
			return
		}
	}
}

func TestLeavesNoGoroutine(t *testing.T) {
	before := runtime.NumGoroutine()
	lex.Lex("select a, 'b' <> 7 !")
	lex.Show(word("a"))
	lex.Keyword("from")
	if now := runtime.NumGoroutine(); now > before {
		t.Errorf("%d goroutines, %d ahead", now, before)
	}
}
