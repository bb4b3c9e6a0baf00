package lex_test

import (
	"math"
	"math/rand"
	"slices"
	"strings"
	"testing"

	"codicil/api"
	"codicil/lex"
)

// 9.2: the texts of tokens of each kind.
func TestShow(t *testing.T) {
	for want, k := range map[string]api.Token{
		"a": word("a"), "_": word("_"), "Selects": word("Selects"), xs(64): word(xs(64)),
		"SELECT": key("SELECT"), "IN": key("IN"), "HISTORY": key("HISTORY"),
		"0": whole(0), "7": whole(7), "9223372036854775807": whole(math.MaxInt64),
		"''": text(""), "'a'": text("a"), "''''": text("'"), "'it''s'": text("it's"), "''''''": text("''"), "'a'''": text("a'"), "'\n é \x00'": text("\n é \x00"),
		"<>": sign("<>"), ".": sign("."), "<": sign("<"), ">=": sign(">="),
		"'" + xs(api.MaxText) + "'": text(xs(api.MaxText)), "'" + strings.Repeat("''", api.MaxText) + "'": text(strings.Repeat("'", api.MaxText)),
	} {
		for _, place := range []int{0, 1, -1, math.MaxInt, math.MinInt} {
			if s, why := lex.Show(at(place, k)); s != want || why != api.OK {
				t.Errorf("Show(%s): %s, error %d", show(k), show(s), why)
			}
		}
	}
}

// 9.2: tokens that Lex may not answer.
func TestShowWrong(t *testing.T) {
	for _, k := range []api.Token{
		{}, {Text: "a"}, {N: 1}, {Kind: api.TokenCount}, {Kind: api.TokenCount, Text: "a"}, {Kind: 255, Text: "a"}, {Kind: api.TokenCount, N: 1},
		word(""), word("1"), word("1a"), word("a b"), word(" a"), word("a "), word("a-b"), word("é"), word("\xff"), word("'a'"), word("from"), word("FROM"), word("From"), word(xs(65)), word("a.b"), word("+"), word(xs(1 << 20)),
		key(""), key("from"), key("From"), key("FROMS"), key("a"), key("A"), key(" FROM"), key("FROM "), key("FROM FROM"), key("="),
		whole(-1), whole(math.MinInt64), {Kind: api.TokenInt, N: 7, Text: "7"}, {Kind: api.TokenInt, Text: "0"}, {Kind: api.TokenInt, Text: " "},
		text(xs(api.MaxText + 1)), text("\xff"), text("a\xc3"), text(xs(1<<20) + "\xff"), text(strings.Repeat("'", api.MaxText+1)), text("\xed\xa0\x80"),
		sign(""), sign(" "), sign("="[:0]), sign("=="), sign("!"), sign("<>="), sign("< >"), sign(" ="), sign("= "), sign("'"), sign("a"), sign("7"), sign("()"), sign("/"), sign("<=>"), sign("AND"),
		{Kind: api.TokenWord, Text: "a", N: 1}, {Kind: api.TokenKey, Text: "FROM", N: 1}, {Kind: api.TokenText, Text: "a", N: 1}, {Kind: api.TokenText, N: -1}, {Kind: api.TokenSign, Text: "=", N: 1},
	} {
		for _, place := range []int{0, 3, -1} {
			if s, why := lex.Show(at(place, k)); s != "" || why != api.ErrSyntax {
				t.Errorf("Show(%s): %s, error %d", show(k), show(s), why)
			}
		}
	}
}

// 9.2: each kind with each text and number.
func TestShowAsSaid(t *testing.T) {
	texts := append([]string{"", " ", "a", "A", "_9", "9", "0", "é", "\xff", "'", "''", "'a'", "it's", "from", "From", "a b", "a ", " a", "==", "-1", xs(64), xs(65), xs(api.MaxText), xs(api.MaxText + 1), "\x00"}, append(slices.Clone(signs), keys...)...)
	for kind := range 9 {
		for _, s := range texts {
			for _, n := range []int64{0, 1, -1, 9, math.MaxInt64, math.MinInt64} {
				k := api.Token{Kind: api.TokenKind(kind), Text: s, N: n, At: 5}
				want, no := saidShow(k)
				if s, why := lex.Show(k); s != want || why != no {
					t.Errorf("Show(%s): %s, error %d, not %s, %d", show(k), show(s), why, show(want), no)
				}
			}
		}
	}
	if _, why := lex.Show(api.Token{Kind: 255, Text: "a"}); why != api.ErrSyntax {
		t.Errorf("Show: error %d", why)
	}
}

// 9.4: tokens that are shown, with a space between, are read as they were; what is read can be shown.
func TestThereAndBack(t *testing.T) {
	r := rand.New(rand.NewSource(94))
	for range 20000 {
		want := anyTokens(r)
		var texts []string
		for _, k := range want {
			texts = append(texts, shown(t, k))
		}
		s := strings.Join(texts, " ")
		l, why, place := lex.Lex(s)
		if why != api.OK || place != 0 || !slices.Equal(placeless(l), want) {
			t.Fatalf("Lex(%s): %s, error %d at %d, not %s", show(s), show(l), why, place, show(want))
		}
		for i, k := range l {
			if again := shown(t, k); again != texts[i] {
				t.Fatalf("Show(%s): %s, not %s", show(k), show(again), show(texts[i]))
			}
		}
	}
}

// 9.5, 9.6: blanks more between tokens are no matter but for places, which rise; each token's text begins at its place.
func TestBlanksAndPlaces(t *testing.T) {
	r := rand.New(rand.NewSource(95))
	for range 20000 {
		want := anyTokens(r)
		s := anyBlanks(r, 0)
		for i, k := range want {
			want[i].At = len(s)
			s += shown(t, k) + anyBlanks(r, 1)
		}
		reads(t, s, want...)
		l, _, _ := lex.Lex(s)
		for i, k := range l {
			if i > 0 && k.At <= l[i-1].At || !strings.HasPrefix(s[k.At:], shown(t, k)) {
				t.Errorf("Lex(%s): %s", show(s), show(l))
			}
		}
		if t.Failed() {
			return
		}
	}
}

// 9.6: of what needs no blank between, too, in whatever case.
func TestPlacesWithoutBlanks(t *testing.T) {
	const s = "Select'a''b'<=7.x_1[sEt]''''<>-0"
	reads(t, s, key("SELECT"), at(6, text("a'b")), at(12, sign("<=")), at(14, whole(7)), at(15, sign(".")), at(16, word("x_1")), at(19, sign("[")), at(20, key("SET")),
		at(23, sign("]")), at(24, text("'")), at(28, sign("<>")), at(30, sign("-")), at(31, whole(0)))
}

// 9.3: answers are new memory, and nothing that is handed in is kept or changed.
func TestNewMemory(t *testing.T) {
	const s = "SELECT a.b, select 'it' 'it''s' '' <= 7 = x_1 a a ( , ,"
	given, change := lent(s)
	l, why, _ := lex.Lex(given)
	again, _, _ := lex.Lex(given)
	apart(t, l, given, again)
	want := slices.Clone(l)
	if given != s || why != api.OK || !slices.Equal(l, again) {
		t.Fatalf("Lex(%s): %s, %s, error %d", show(given), show(l), show(again), why)
	}
	var all []string
	for _, k := range l {
		x, y := shown(t, k), shown(t, k)
		apart(t, []string{x, y}, l, all)
		all = append(all, x, y)
	}
	again[1].Text = "!"
	before := strings.Join(all, " ")
	change()
	if !slices.Equal(l, want) || strings.Join(all, " ") != before {
		t.Errorf("kept: %s", show(l))
	}
	reads(t, "SELECT a", key("SELECT"), at(7, word("a")))

	name, change := lent("abc")
	out := shown(t, word(name))
	change()
	if out != "abc" {
		t.Errorf("kept: %q", out)
	}
}
