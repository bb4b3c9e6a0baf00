package bin_test

import (
	"math/rand"
	"runtime"
	"slices"
	"strings"
	"testing"
	"unicode/utf8"

	"codicil/api"
	"codicil/bin"
	"codicil/value"
)

func TestReadWrong(t *testing.T) {
	ff := strings.Repeat("\xff", 9)
	for _, s := range []string{
		"", "\x03", "\x04", "\x05", "\x06", "\x07", "\x03\x80", "\x04\x80", "\x06\x80", "\x07\x80", // too early
		"\x04\x01", "\x05\x02x", "\x06\x01", "\x06\x02\x00", "\x07\x01", "\x07\x01\x01", "\x07\x01\x01a", "\x07\x02\x01a\x00",
		"\x06\x01\x06\x01\x04\x02x",
		"\x04" + ff + "\x01x", "\x05\x80\x80\x80\x80\x80\x80\x80\x80\x80\x01", // far more bytes than there are
		"\x00\x00", "\x02x", "\x03\x00\x00", "\x04\x00x", "\x05\x01xx", "\x06\x00\x00", "\x07\x00\x00", "\x06\x01\x00\x00", // left over
		"\x08", "\x09", "\x7f", "\x80", "\xff", "\x06\x01\x08", "\x07\x01\x01a\x08", // first bytes
		"\x03\x80\x00", "\x03\xff\x00", "\x04\x81\x00x", "\x05\x80\x00", "\x06\x80\x00", "\x06\x81\x00\x00", "\x07\x80\x00", "\x07\x01\x81\x00a\x00", // not the shortest
		"\x03" + ff + "\x02", "\x03" + ff + "\x03", "\x06" + ff + "\x02", // beyond
		"\x03" + ff + "\x81\x01", "\x03" + ff + "\xff\x01", // more than ten bytes
		"\x06\x41" + string(make([]byte, api.MaxParts+1)), "\x06\x80\x01" + string(make([]byte, 128)), // too many
		"\x06" + ff + "\x01", "\x07" + ff + "\x01", "\x06\x01\x06\x41" + string(make([]byte, api.MaxParts+1)),
		"\x04\x81\x08" + xs(api.MaxText+1), "\x05\x81\x08" + xs(api.MaxText+1), "\x07\x01\x81\x08" + xs(api.MaxText+1) + "\x00", // too long
		"\x04\x01\xff", "\x04\x02\xc3x", "\x04\x03\xed\xa0\x80", "\x06\x01\x04\x01\x80", "\x07\x01\x01\xff\x00", // no UTF-8
		"\x07\x01\x00\x00", "\x06\x01\x07\x01\x00\x00", // no name
		"\x07\x02\x01b\x00\x01a\x00", "\x07\x02\x01a\x00\x01a\x00", "\x07\x02\x02aa\x00\x01a\x00", "\x07\x01\x01a\x07\x02\x01b\x00\x01a\x00", // names that do not rise
		strings.Repeat("\x06\x01", api.MaxDepth) + "\x06\x00", strings.Repeat("\x06\x01", api.MaxDepth) + "\x07\x00", // too deep
		strings.Repeat("\x07\x01\x01a", api.MaxDepth) + "\x06\x00", strings.Repeat("\x06\x01", api.MaxBytes/2-1) + "\x06\x00",
		strings.Repeat("\x06\x40", api.MaxBytes/2), strings.Repeat("\x06", api.MaxBytes), strings.Repeat("\xff", api.MaxBytes),
	} {
		if v, why := bin.Read(s); !value.Same(v, api.Value{}) || why != api.ErrForm {
			t.Errorf("Read(%.80x) = %v, error %d", s, v, why)
		}
	}
}

func TestReadDeepest(t *testing.T) {
	s := strings.Repeat("\x06\x01", api.MaxDepth) + "\x00"
	if v, why := bin.Read(s); !value.Same(v, within(api.MaxDepth, api.Value{})) || why != api.OK {
		t.Errorf("Read(%x) = %v, error %d", s, v, why)
	}
}

// A text that is too long is refused for that, whatever it has.
func TestReadTooLong(t *testing.T) {
	for _, s := range []string{
		"\x05" + bin.Number(api.MaxBytes+1) + xs(api.MaxBytes+1),
		xs(api.MaxBytes + 1), string(make([]byte, api.MaxBytes+1)), strings.Repeat("\x06\x01", api.MaxBytes), strings.Repeat("\xff", 1<<20),
	} {
		if v, why := bin.Read(s); !value.Same(v, api.Value{}) || why != api.ErrLong {
			t.Errorf("Read of %d bytes: %v, error %d", len(s), v, why)
		}
	}
	if v, why := bin.Read(xs(api.MaxBytes)); !value.Same(v, api.Value{}) || why != api.ErrForm {
		t.Errorf("Read of MaxBytes bytes: %v, error %d", v, why)
	}
}

func TestReadThereAndBack(t *testing.T) {
	r := rand.New(rand.NewSource(11))
	for range 2000 {
		v := anyRight(r, api.MaxDepth)
		s, why := bin.Write(v)
		if why == api.ErrLong {
			continue
		}
		w, why := bin.Read(s)
		if !value.Same(v, w) || why != api.OK {
			t.Fatalf("Read(%x) = %v, error %d, not %v", s, w, why, v)
		}
		apart(t, w, s, v)
		again, _ := bin.Read(s)
		apart(t, again, w)
		cut := r.Intn(len(s))
		if w, why := bin.Read(s[:cut]); !value.Same(w, api.Value{}) || why != api.ErrForm {
			t.Fatalf("Read(%x) = %v, error %d", s[:cut], w, why)
		}
		if w, why := bin.Read(s + s[cut:cut+1]); len(s) < api.MaxBytes && (!value.Same(w, api.Value{}) || why != api.ErrForm) {
			t.Fatalf("Read(%x) = %v, error %d", s+s[cut:cut+1], w, why)
		}
	}
}

// backAgain fails, unless s is refused, or just what its value is written as.
func backAgain(t *testing.T, s string) bool {
	t.Helper()
	v, why := bin.Read(s)
	if why != api.OK {
		if why != api.ErrForm || !value.Same(v, api.Value{}) {
			t.Fatalf("Read(%x) = %v, error %d", s, v, why)
		}
		return false
	}
	if u, why := bin.Write(v); u != s || why != api.OK {
		t.Fatalf("Write(Read(%x)) = %x, error %d", s, u, why)
	}
	return true
}

// letters are the bytes of the short texts that are all tried.
const letters = "\x00\x01\x02\x03\x04\x05\x06\x07\x08a\xc3\xa9\x80\xff"

// Each short text is one value's, or none's: those that are read are just those that are built by the chapter's words.
func TestReadAllShortTexts(t *testing.T) {
	for n := range 6 {
		right := map[string]bool{}
		for _, s := range texts(n) {
			right[s] = true
		}
		for _, s := range words(n) {
			if backAgain(t, s) != right[s] {
				t.Fatalf("Read(%x) takes it: %v", s, !right[s])
			}
		}
	}
}

// words are all texts of n letters.
func words(n int) []string {
	if n == 0 {
		return []string{""}
	}
	return pairs([]string{""}, words(n-1), func(_, s string) []string {
		var out []string
		for i := range len(letters) {
			out = append(out, s+letters[i:i+1])
		}
		return out
	})
}

// pairs are what is made of each of a with each of b.
func pairs(a, b []string, make func(x, y string) []string) []string {
	var out []string
	for _, x := range a {
		for _, y := range b {
			out = append(out, make(x, y)...)
		}
	}
	return out
}

// texts are those of n letters that are values' texts; no limit is in reach of so few.
func texts(n int) []string {
	if n < 2 {
		return []string{"\x00", "\x01", "\x02"}[:3*n]
	}
	var out []string
	for _, s := range words(n - 1) {
		ahead, last := s[:n-2], s[n-2]
		low := slices.ContainsFunc([]byte(ahead), func(b byte) bool { return b < 128 })
		if !low && last < 128 && (last > 0 || n == 2) {
			out = append(out, "\x03"+s)
		}
	}
	for _, s := range words(n - 2) {
		out = append(out, "\x05"+counted(n-2)+s)
		if utf8.ValidString(s) {
			out = append(out, "\x04"+counted(n-2)+s)
		}
	}
	for k := range n - 1 {
		for _, s := range rows(k, n-2) {
			out = append(out, "\x06"+counted(k)+s)
		}
		for _, s := range fieldRows(k, n-2, "") {
			out = append(out, "\x07"+counted(k)+s)
		}
	}
	return out
}

func counted(n int) string { return string([]byte{byte(n)}) }

// rows are the texts of k values, of n letters in all.
func rows(k, n int) []string {
	if k == 0 {
		return []string{""}[:max(0, 1-n)]
	}
	var out []string
	for m := 1; m <= n; m++ {
		out = append(out, pairs(texts(m), rows(k-1, n-m), func(x, y string) []string { return []string{x + y} })...)
	}
	return out
}

// fieldRows are the texts of k fields, of n letters in all, their names rising from above a name.
func fieldRows(k, n int, above string) []string {
	if k == 0 {
		return rows(0, n)
	}
	var out []string
	for l := 1; l < n; l++ {
		for _, name := range words(l) {
			if name <= above || !utf8.ValidString(name) {
				continue
			}
			for m := 1; m < n-l; m++ {
				out = append(out, pairs(texts(m), fieldRows(k-1, n-1-l-m, name), func(x, y string) []string {
					return []string{counted(l) + name + x + y}
				})...)
			}
		}
	}
	return out
}

func TestReadChangedTexts(t *testing.T) {
	r := rand.New(rand.NewSource(13))
	for range 20000 {
		s, _ := bin.Write(anyRight(r, 3))
		b := []byte(s)
		for range 1 + r.Intn(2) {
			switch i := r.Intn(len(b) + 1); {
			case i == len(b):
				b = append(b, byte(r.Intn(256)))
			case r.Intn(3) > 0:
				b[i] = []byte{0, 1, 2, 3, 4, 5, 6, 7, 8, 63, 64, 65, 127, 128, 255, b[i] + 1}[r.Intn(16)]
			default:
				b = append(b[:i], b[i+1:]...)
			}
			if len(b) > 0 && len(b) <= api.MaxBytes {
				backAgain(t, string(b))
			}
		}
	}
}

func TestReadLeavesNoGoroutine(t *testing.T) {
	before := runtime.NumGoroutine()
	for _, v := range samples() {
		s, _ := bin.Write(v)
		bin.Read(s)
	}
	if now := runtime.NumGoroutine(); now > before {
		t.Errorf("%d goroutines, %d ahead", now, before)
	}
}
