package merkle

import (
	"slices"
	"testing"
)

// No two texts of one digest are known, so that what is found of them is looked at with digests that are made up.
func TestFirstAlike(t *testing.T) {
	for _, c := range []struct {
		a, b []made
		x, y string
		is   bool
	}{
		{[]made{{"a", "1"}}, []made{{"b", "1"}}, "a", "b", true},
		{[]made{{"a", "1"}, {"c", "3"}}, []made{{"b", "1"}, {"d", "3"}}, "a", "b", true},
		{[]made{{"a", "1"}, {"c", "3"}, {"e", "4"}}, []made{{"b", "2"}, {"d", "3"}, {"e", "4"}}, "c", "d", true},
		{[]made{{"a", "1"}, {"c", "3"}}, []made{{"b", "3"}, {"d", "1"}}, "", "", false},
		{nil, nil, "", "", false},
	} {
		if x, y, is := firstAlike(c.a, c.b); x != c.x || y != c.y || is != c.is {
			t.Errorf("firstAlike(%v, %v) = %q, %q, %v", c.a, c.b, x, y, is)
		}
	}
}

// The digests of a chain are those of its texts; each is in the next text, at the side that the place says.
func TestChain(t *testing.T) {
	d := []string{digested("0").digest, digested("1").digest, digested("2").digest}
	up := chain("s", toText(4, 7), d) // of 7 texts 4 is the first of the first two of the last three
	texts := []string{
		"\x00s",
		"\x01" + up[0].digest + d[0],
		"\x01" + up[1].digest + d[1],
		"\x01" + d[2] + up[2].digest,
	}
	var got []string
	for _, m := range up {
		got = append(got, m.text)
		if m != digested(m.text) {
			t.Errorf("digest of %x: %x", m.text, m.digest)
		}
	}
	if !slices.Equal(got, texts) {
		t.Errorf("chain: %x", got)
	}
}
