package sha_test

import (
	"crypto/sha256"
	"encoding"
	"encoding/binary"
	"encoding/hex"
	"math/rand"
	"runtime"
	"strings"
	"testing"
	"unsafe"

	"codicil/api"
	"codicil/sha"
)

const most = 1 << 60

// text is one of n bytes, all of them unlike their neighbours.
func text(n int) string {
	b := make([]byte, n)
	for i := range b {
		b[i] = byte(i*7 + i/256)
	}
	return string(b)
}

// known is the digest of s by the library.
func known(s string) string {
	d := sha256.Sum256([]byte(s))
	return string(d[:])
}

// resumed is the library's digest behind a hand-made state and a further piece.
func resumed(t *testing.T, x api.Sha, s string) string {
	t.Helper()
	b := []byte("sha\x03")
	for _, w := range x.Words {
		b = binary.BigEndian.AppendUint32(b, w)
	}
	b = append(b, x.Rest...)
	b = append(b, make([]byte, 64-len(x.Rest))...)
	b = binary.BigEndian.AppendUint64(b, x.Count)
	h := sha256.New()
	if err := h.(encoding.BinaryUnmarshaler).UnmarshalBinary(b); err != nil {
		t.Fatal(err)
	}
	h.Write([]byte(s))
	return string(h.Sum(nil))
}

func add(t *testing.T, x api.Sha, s string) api.Sha {
	t.Helper()
	y, why := sha.Add(x, s)
	if why != api.OK {
		t.Fatalf("Add(%v, %d bytes): error %d", x, len(s), why)
	}
	return y
}

func end(t *testing.T, x api.Sha) string {
	t.Helper()
	d, why := sha.End(x)
	if why != api.OK {
		t.Fatalf("End(%v): error %d", x, why)
	}
	return d
}

// 1.1: the examples, and those of FIPS 180-4.
func TestSumKnown(t *testing.T) {
	for _, x := range []struct{ s, want string }{
		{"", "e3b0c44298fc1c149afbf4c8996fb92427ae41e4649b934ca495991b7852b855"},
		{"abc", "ba7816bf8f01cfea414140de5dae2223b00361a396177a9cb410ff61f20015ad"},
		{"abcdbcdecdefdefgefghfghighijhijkijkljklmklmnlmnomnopnopq", "248d6a61d20638b8e5c026930c3e6039a33ce45964ff2167f6ecedd419db06c1"},
		{strings.Repeat("a", 1000000), "cdc76e5c9914fb9281a1c7e284d73e67f1809a48a497200e046d39ccc7112cd0"},
	} {
		if d := sha.Hex(sha.Sum(x.s)); d != x.want {
			t.Errorf("Sum of %d bytes: %s, not %s", len(x.s), d, x.want)
		}
	}
}

// 1.1, 1.3: all lengths up to some blocks, 55, 56, 63, 64 and their like among them.
func TestSumLengths(t *testing.T) {
	for n := range 400 {
		s := text(n)
		d := sha.Sum(s)
		if d != known(s) || len(d) != 32 || len(sha.Hex(d)) != 64 {
			t.Errorf("Sum of %d bytes: %x", n, d)
		}
	}
}

// 1.1: the state ahead of all bytes.
func TestStart(t *testing.T) {
	want := api.Sha{Words: [8]uint32{0x6A09E667, 0xBB67AE85, 0x3C6EF372, 0xA54FF53A, 0x510E527F, 0x9B05688C, 0x1F83D9AB, 0x5BE0CD19}}
	if x := sha.Start(); x != want {
		t.Errorf("Start: %v", x)
	}
	if d := end(t, sha.Start()); d != known("") {
		t.Errorf("End of Start: %x", d)
	}
}

// 1.1: what a state says of the bytes that came.
func TestAddState(t *testing.T) {
	for _, n := range []int{0, 1, 55, 56, 63, 64, 65, 127, 128, 129, 200} {
		s := text(n)
		x := add(t, sha.Start(), s)
		if x.Count != uint64(n) || x.Rest != s[n/64*64:] {
			t.Errorf("Add of %d bytes: %v", n, x)
		}
		if n < 64 && x.Words != sha.Start().Words {
			t.Errorf("Add of %d bytes changed the words", n)
		}
		if d := end(t, x); d != known(s) {
			t.Errorf("End behind %d bytes: %x", n, d)
		}
	}
}

// 1.2: a text cut in two, at each place.
func TestCutInTwo(t *testing.T) {
	for _, n := range []int{0, 1, 55, 56, 57, 63, 64, 65, 119, 120, 127, 128, 129, 192, 200} {
		s := text(n)
		for i := range n + 1 {
			x := add(t, add(t, sha.Start(), s[:i]), s[i:])
			if x != add(t, sha.Start(), s) || end(t, x) != sha.Sum(s) {
				t.Fatalf("%d bytes, cut at %d: %v", n, i, x)
			}
		}
	}
}

// 1.2: a text cut into any number of pieces, empty ones among them.
func TestCutAnywhere(t *testing.T) {
	r := rand.New(rand.NewSource(1))
	for range 500 {
		s := text(r.Intn(700))
		x := sha.Start()
		for rest := s; rest != ""; {
			n := r.Intn(min(len(rest), 130) + 1)
			x = add(t, x, rest[:n])
			rest = rest[n:]
		}
		if end(t, x) != known(s) {
			t.Fatalf("%d bytes: another digest", len(s))
		}
	}
	s := text(300)
	x := sha.Start()
	for i := range len(s) {
		x = add(t, x, s[i:i+1])
	}
	if end(t, x) != known(s) {
		t.Error("byte by byte: another digest")
	}
}

// 1.1: states that are not right; with the error all else is zero.
func TestNotRight(t *testing.T) {
	for i, x := range []api.Sha{
		{Count: 1},
		{Rest: "x"},
		{Count: 2, Rest: "x"},
		{Count: 64, Rest: text(64)},
		{Count: 128, Rest: text(64)},
		{Count: 0, Rest: text(64)},
		{Count: 65, Rest: text(65)},
		{Count: 63, Rest: text(62)},
		{Count: 63, Rest: text(127)},
		{Count: most},
		{Count: most + 1, Rest: "x"},
		{Count: 1<<64 - 1, Rest: text(63)},
		{Count: 1<<64 - 64},
		{Count: 1 << 63},
	} {
		for _, s := range []string{"", "x", text(64)} {
			if y, why := sha.Add(x, s); why != api.ErrState || y != (api.Sha{}) {
				t.Errorf("Add, %d: %v, error %d", i, y, why)
			}
		}
		if d, why := sha.End(x); why != api.ErrState || d != "" {
			t.Errorf("End, %d: %x, error %d", i, d, why)
		}
	}
}

// 1.1: Count near 2^60.
func TestRange(t *testing.T) {
	for i, c := range []struct {
		x    api.Sha
		s    string
		want api.Errno
	}{
		{api.Sha{Count: most - 64}, text(63), api.OK},
		{api.Sha{Count: most - 64}, text(64), api.ErrRange},
		{api.Sha{Count: most - 64}, text(65), api.ErrRange},
		{api.Sha{Count: most - 64}, text(1000), api.ErrRange},
		{api.Sha{Count: most - 1, Rest: text(63)}, "", api.OK},
		{api.Sha{Count: most - 1, Rest: text(63)}, "x", api.ErrRange},
		{api.Sha{Count: most - 2, Rest: text(62)}, "x", api.OK},
		{api.Sha{Count: most - 2, Rest: text(62)}, "xy", api.ErrRange},
		{api.Sha{Count: most - 128}, text(64), api.OK},
		{api.Sha{Count: most, Rest: "x"}, text(64), api.ErrState},
	} {
		y, why := sha.Add(c.x, c.s)
		if why != c.want {
			t.Errorf("Add, %d: error %d, not %d", i, why, c.want)
		}
		if why != api.OK && y != (api.Sha{}) {
			t.Errorf("Add, %d: %v beside an error", i, y)
		}
		if why == api.OK && (y.Count != c.x.Count+uint64(len(c.s)) || end(t, y) != resumed(t, c.x, c.s)) {
			t.Errorf("Add, %d: %v", i, y)
		}
	}
}

// 1.1: a hand-made state is taken as it says, whatever its words and its bytes are.
func TestHandMade(t *testing.T) {
	r := rand.New(rand.NewSource(2))
	for range 500 {
		var x api.Sha
		for i := range x.Words {
			x.Words[i] = r.Uint32()
		}
		x.Count = r.Uint64() >> (4 + r.Intn(60))
		x.Rest = text(int(x.Count % 64))
		if end(t, x) != resumed(t, x, "") {
			t.Fatalf("End(%v): another digest", x)
		}
		s := text(r.Intn(200))
		if x.Count+uint64(len(s)) < most && end(t, add(t, x, s)) != resumed(t, x, s) {
			t.Fatalf("Add(%v, %d bytes): another digest", x, len(s))
		}
	}
}

// 1.1: each byte's digits.
func TestHex(t *testing.T) {
	all := make([]byte, 256)
	for i := range all {
		all[i] = byte(i)
	}
	for _, s := range []string{"", "\x00", "\x0f", "\xf0", "\xff", "abc", string(all)} {
		if x := sha.Hex(s); x != hex.EncodeToString([]byte(s)) {
			t.Errorf("Hex(%q): %s", s, x)
		}
	}
}

// P2, P3, new memory: what is handed in stays as it was and is not kept; the same arguments have the same answer.
func TestMemory(t *testing.T) {
	b := []byte(text(200))
	s := unsafe.String(&b[0], len(b))
	first := sha.Sum(s)
	x := add(t, sha.Start(), s)
	y := add(t, x, "")
	d := end(t, x)
	if string(b) != text(200) || sha.Sum(s) != first || add(t, sha.Start(), s) != x {
		t.Error("another answer, or a changed argument")
	}
	if unsafe.StringData(y.Rest) == unsafe.StringData(x.Rest) {
		t.Error("Add answers the Rest that was handed in")
	}
	clear(b)
	if x.Rest != text(200)[192:] || end(t, x) != d || first != known(text(200)) {
		t.Error("an answer lies in what was handed in")
	}
}

// P4: no goroutine is left.
func TestNoGoroutine(t *testing.T) {
	before := runtime.NumGoroutine()
	for range 100 {
		sha.Hex(end(t, add(t, sha.Start(), text(200))))
		sha.Sum(text(200))
	}
	if after := runtime.NumGoroutine(); after > before {
		t.Errorf("%d goroutines, not %d", after, before)
	}
}
