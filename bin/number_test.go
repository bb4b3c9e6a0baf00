package bin_test

import (
	"encoding/binary"
	"math"
	"math/rand"
	"strings"
	"testing"

	"codicil/api"
	"codicil/bin"
)

func TestNumberEdges(t *testing.T) {
	for _, c := range []struct {
		n    uint64
		text string
	}{
		{0, "\x00"},
		{1, "\x01"},
		{127, "\x7f"},
		{128, "\x80\x01"},
		{129, "\x81\x01"},
		{300, "\xac\x02"},
		{1<<14 - 1, "\xff\x7f"},
		{1 << 14, "\x80\x80\x01"},
		{1<<63 - 1, "\xff\xff\xff\xff\xff\xff\xff\xff\x7f"},
		{1 << 63, "\x80\x80\x80\x80\x80\x80\x80\x80\x80\x01"},
		{math.MaxUint64, "\xff\xff\xff\xff\xff\xff\xff\xff\xff\x01"},
	} {
		if got := bin.Number(c.n); got != c.text {
			t.Errorf("Number(%d) = %x", c.n, got)
		}
		for _, tail := range []string{"", "\x00", "\x80", "\xff\xff", "x"} {
			if n, k, why := bin.ReadNumber(c.text + tail); n != c.n || k != len(c.text) || why != api.OK {
				t.Errorf("ReadNumber(%x%x) = %d, %d, error %d", c.text, tail, n, k, why)
			}
		}
	}
}

func TestNumberThereAndBack(t *testing.T) {
	r := rand.New(rand.NewSource(3))
	for range 20000 {
		want := r.Uint64() >> r.Intn(64)
		text := bin.Number(want)
		if text != string(binary.AppendUvarint(nil, want)) {
			t.Fatalf("Number(%d) = %x", want, text)
		}
		if n, k, why := bin.ReadNumber(text); n != want || k != len(text) || why != api.OK {
			t.Fatalf("ReadNumber(%x) = %d, %d, error %d", text, n, k, why)
		}
		for i := range text {
			if n, k, why := bin.ReadNumber(text[:i]); n != 0 || k != 0 || why != api.ErrForm {
				t.Fatalf("ReadNumber(%x) = %d, %d, error %d", text[:i], n, k, why)
			}
		}
	}
}

func TestNumberWrong(t *testing.T) {
	ff := strings.Repeat("\xff", 9)
	for _, s := range []string{
		"",
		"\x80", "\xff\xff", ff, ff + "\xff", ff + "\x80", // too early
		"\x80\x00", "\xff\x00", "\x81\x80\x00", ff + "\x00", "\x80\x00\x01", // not the shortest
		ff + "\x02", ff + "\x03", ff + "\x7f", ff + "\x41", // beyond
		ff + "\x80\x00", ff + "\x81\x00", ff + "\x80\x01", ff + "\xff\x01", strings.Repeat("\x80", 1000) + "\x01", // more than ten bytes
	} {
		if n, k, why := bin.ReadNumber(s); n != 0 || k != 0 || why != api.ErrForm {
			t.Errorf("ReadNumber(%x) = %d, %d, error %d", s, n, k, why)
		}
	}
}

// What begins with a number begins with the text of that number, and nothing else is refused.
func TestNumberShortTexts(t *testing.T) {
	for i := range 1 << 16 {
		s := string([]byte{byte(i), byte(i >> 8)})
		n, k, why := bin.ReadNumber(s)
		is := s[0] < 128 || s[1] < 128 && s[1] > 0
		if is != (why == api.OK) || !is && (n != 0 || k != 0 || why != api.ErrForm) || is && bin.Number(n) != s[:k] {
			t.Fatalf("ReadNumber(%x) = %d, %d, error %d", s, n, k, why)
		}
	}
}
