package code_test

import (
	"math"
	"slices"
	"strings"
	"testing"

	"codicil/api"
	"codicil/bin"
	"codicil/code"
)

// 13.1: programs' texts, byte by byte.
func TestTexts(t *testing.T) {
	written(t, program(do(path("a")), and(4), do(path("b")), flag), "\x01\x06\x00\x01a\x02\x04\x01\x06\x00\x01b\x03")
	written(t, program(do(path("a")), or(4), do(path("b.0")), join), "\x01\x06\x00\x01a\x04\x04\x01\x06\x00\x03b.0\x05")
	written(t, program(null), "\x01\x01\x00\x00")
	written(t, program(null, not), "\x01\x01\x00\x00\x01\x0a\x00\x00")
	written(t, program(do(text("é"))), "\x01\x05\x00\x02é")
	written(t, program(do(text("\x00\x01"))), "\x01\x05\x00\x02\x00\x01")
	written(t, program(do(list(0))), "\x01\x07\x00\x00")
	written(t, program(null, null, do(structOf("y", "x"))), "\x01\x01\x00\x00\x01\x01\x00\x00\x01\x08\x02\x03y,x")
	for _, s := range append(append(leaves[:3:3], unary...), pairing[:9]...) {
		written(t, append(times(takes(s), null), do(s)), strings.Repeat("\x01\x01\x00\x00", takes(s))+"\x01"+string(rune(s.Kind))+"\x00\x00")
	}
}

// 13.1: N's bits are a number: those of the greatest int, too; what is below 0 is in no right program.
func TestTextNumbers(t *testing.T) {
	for n, want := range map[int64]string{0: "\x00", 1: "\x01", 127: "\x7f", 128: "\x80\x01", 16383: "\xff\x7f", 16384: "\x80\x80\x01", 1 << 62: "\x80\x80\x80\x80\x80\x80\x80\x80\x40", math.MaxInt64: "\xff\xff\xff\xff\xff\xff\xff\xff\x7f"} {
		written(t, program(do(whole(n))), "\x01\x04"+want+"\x00")
	}
	for _, n := range []int64{-1, -2, -128, math.MinInt64, math.MinInt64 + 1} {
		wrong(t, program(do(whole(n))))
		wrong(t, program(do(list(int(n)))))
		unread(t, "\x01\x04"+bin.Number(uint64(n))+"\x00", api.ErrForm)
		unread(t, "\x01\x07"+bin.Number(uint64(n))+"\x00", api.ErrForm)
	}
}

// 13.1: texts of MaxText bytes, and what is longer.
func TestTextTexts(t *testing.T) {
	for n, want := range map[int]string{0: "\x00", 1: "\x01", 127: "\x7f", 128: "\x80\x01", 1023: "\xff\x07", 1024: "\x80\x08"} {
		written(t, program(do(text(xs(n)))), "\x01\x05\x00"+want+xs(n))
	}
	unread(t, "\x01\x05\x00\x81\x08"+xs(1025), api.ErrForm)
	wrong(t, program(do(text(xs(1025)))))
	long := strings.Repeat(xs(63)+".", 16)[:1023] + "x"
	written(t, program(do(path(long))), "\x01\x06\x00\x80\x08"+long)
	// The names of a struct may be longer than a text.
	s := structOf(names(64, 64)...)
	if len(s.Text) != 64*65-1 {
		t.Fatal(len(s.Text))
	}
	written(t, append(times(64, null), do(s)), strings.Repeat("\x01\x01\x00\x00", 64)+"\x01\x08\x40\xbf\x20"+s.Text)
}

// 13.1: To at the ends of what may be.
func TestTextPlaces(t *testing.T) {
	for to, want := range map[int]string{2: "\x02", 127: "\x7f", 128: "\x80\x01", 255: "\xff\x01", 256: "\x80\x02"} {
		p := slices.Concat(program(null, or(to)), times(254, flag))
		written(t, p, "\x01\x01\x00\x00\x04"+want+strings.Repeat("\x03", 254))
		if to > 2 {
			p[1], p[2] = and(to), null
			written(t, p, "\x01\x01\x00\x00\x02"+want+"\x01\x01\x00\x00"+strings.Repeat("\x03", 253))
		}
	}
	for _, n := range []uint64{0, 1, 257, 258, 1 << 16, 1<<31 + 2, 1<<32 + 2, 1<<32 + 256, 1<<62 + 2, 1<<63 - 1, 1 << 63, 1<<63 + 2, 1<<64 - 1} {
		unread(t, "\x01\x01\x00\x00\x04"+bin.Number(n)+strings.Repeat("\x03", 254), api.ErrForm)
		unread(t, "\x01\x01\x00\x00\x02"+bin.Number(n)+"\x01\x01\x00\x00"+strings.Repeat("\x03", 253), api.ErrForm)
	}
}

// long is a right program whose text has so many bytes, from some 5000 on.
func long(t *testing.T, size int) []api.Instr {
	t.Helper()
	var p []api.Instr
	rest := size - len("\x01\x07\x10\x00")
	for i := range 16 {
		n := (rest - 1) / (16 - i)
		if i == 15 {
			n = rest
		}
		// Each text has from 128 to MaxText bytes, and five ahead of it.
		p = append(p, do(text(xs(n-5))))
		rest -= n
	}
	p = append(p, do(list(16)))
	if s := saidText(p); len(s) != size {
		t.Fatalf("%d bytes, not %d", len(s), size)
	}
	return p
}

// 13.1: programs whose text has MaxBytes bytes, and one more.
func TestTextLong(t *testing.T) {
	for _, size := range []int{5000, api.MaxBytes - 1, api.MaxBytes} {
		p := long(t, size)
		written(t, p, saidText(p))
	}
	many := slices.Concat(times(64, do(text(xs(1024)))), program(do(list(64))))
	for _, p := range [][]api.Instr{long(t, api.MaxBytes+1), many, slices.Concat(many, program(not))} {
		right(t, p)
		if s, why := code.Text(p); s != "" || why != api.ErrLong {
			t.Errorf("Text: %d bytes, error %d", len(s), why)
		}
		// What is too long and not right at once is not right.
		wrong(t, append(p, null))
		wrong(t, append(p, do(step(api.StepAnd))))
		wrong(t, append(p, api.Instr{}))
		unread(t, saidText(p), api.ErrLong)
		unread(t, saidText(append(p, null)), api.ErrLong)
	}
	unread(t, saidText(long(t, api.MaxBytes-4))+"\x01\x01\x00\x00", api.ErrForm)
	unread(t, saidText(long(t, api.MaxBytes))+"\x03", api.ErrLong)
	written(t, append(long(t, api.MaxBytes-1), flag), saidText(long(t, api.MaxBytes-1))+"\x03")
	for _, b := range []string{"\x00", "\x01", "\x03", "\xff", "x"} {
		unread(t, strings.Repeat(b, api.MaxBytes), api.ErrForm)
		unread(t, strings.Repeat(b, api.MaxBytes+1), api.ErrLong)
		unread(t, strings.Repeat(b, 1<<20), api.ErrLong)
	}
}

// 13.1: as many instructions as a program may have, and one more, read.
func TestReadSizes(t *testing.T) {
	written(t, append(program(null), times(255, flag)...), "\x01\x01\x00\x00"+strings.Repeat("\x03", 255))
	unread(t, "\x01\x01\x00\x00"+strings.Repeat("\x03", 256), api.ErrForm)
	unread(t, "", api.ErrForm)
}

// asSaid fails, unless Read answers what the chapter says, and tells the error.
func asSaid(t *testing.T, s string) api.Errno {
	t.Helper()
	want, why := saidRead(s)
	if p, no := code.Read(s); no != why || !slices.Equal(p, want) {
		t.Errorf("Read(%s): %s, error %d, not %s, error %d", show(s), shown(p), no, shown(want), why)
	}
	return why
}

// 13.1: texts that are cut short at each byte, that have a byte more at each place, or another one.
func TestReadBytes(t *testing.T) {
	// Of these no beginning is a program's text.
	for _, p := range [][]api.Instr{{null}, {do(whole(1 << 62))}, {do(text("some"))}, {do(path("a.b"))}, {null, null, same}, {null, null, do(structOf("x", "y"))}, {null, and(3), null}} {
		s, _ := code.Text(p)
		for i := range len(s) {
			if i != 4 || p[0] != null {
				unread(t, s[:i], api.ErrForm)
			}
		}
		unread(t, s+"\x00", api.ErrForm)
		unread(t, "\x00"+s, api.ErrForm)
		unread(t, s+s, api.ErrForm)
	}
	met := map[api.Errno]int{}
	for _, x := range []string{"a AND b", "a OR NOT 300 = 'it''s'", "[1, a AND {y: b OR c, x: NULL}]", "-a.b.0 + 9223372036854775807 IS NULL", "((a OR b) OR c) AND (d AND e)"} {
		p, _ := code.Compile(read(t, x))
		s, _ := code.Text(p)
		for i := range len(s) + 1 {
			met[asSaid(t, s[:i])]++
			for b := range 256 {
				one := string([]byte{byte(b)})
				met[asSaid(t, s[:i]+one+s[i:])]++
				if i < len(s) {
					met[asSaid(t, s[:i]+one+s[i+1:])]++
				}
			}
			if i < len(s) {
				met[asSaid(t, s[:i]+s[i+1:])]++
			}
		}
		if t.Failed() {
			return
		}
	}
	if met[api.OK] < 100 || met[api.ErrForm] < 10000 {
		t.Errorf("met %v", met)
	}
}

// 13.1: numbers that are not the shortest, or are beyond.
func TestReadNumbers(t *testing.T) {
	const nine = "\xff\xff\xff\xff\xff\xff\xff\xff\xff"
	for _, n := range []string{"\x80\x00", "\x80\x80\x00", "\x80\x80\x80\x80\x80\x80\x80\x80\x80\x00", nine + "\x02", nine + "\x7f", nine + "\xff\x00", nine + "\x80\x00", nine + "\x81\x00", nine + "\xff\xff", "\x80", nine, ""} {
		unread(t, "\x01\x01"+n+"\x00", api.ErrForm)
		unread(t, "\x01\x01\x00"+n, api.ErrForm)
		unread(t, "\x01\x05\x00"+n, api.ErrForm)
		unread(t, "\x01\x04"+n+"\x00", api.ErrForm)
		unread(t, "\x01\x01\x00\x00\x04"+n, api.ErrForm)
	}
	written(t, program(null, or(2)), "\x01\x01\x00\x00\x04\x02")
	unread(t, "\x01\x01\x00\x00\x04\x82\x00", api.ErrForm)
	unread(t, "\x01\x01\x00\x00\x04\x82\x80\x00", api.ErrForm)
	written(t, program(null, and(3), null), "\x01\x01\x00\x00\x02\x03\x01\x01\x00\x00")
	unread(t, "\x01\x01\x00\x00\x02\x83\x00\x01\x01\x00\x00", api.ErrForm)
	written(t, program(do(whole(1))), "\x01\x04\x01\x00")
	unread(t, "\x01\x04\x81\x00\x00", api.ErrForm)
	written(t, program(do(text("x"))), "\x01\x05\x00\x01x")
	unread(t, "\x01\x05\x00\x81\x00x", api.ErrForm)
	unread(t, "\x01\x05\x80\x00\x01x", api.ErrForm)
	// How many bytes there are is more than are left.
	for _, n := range []uint64{2, 3, 1 << 10, 1 << 31, 1<<32 + 1, 1 << 63, 1<<64 - 1} {
		unread(t, "\x01\x05\x00"+bin.Number(n)+"x", api.ErrForm)
	}
}

// 13.1: a Kind or an Op that is none, and those of AND and OR.
func TestReadKinds(t *testing.T) {
	for b := range 256 {
		one := string([]byte{byte(b)})
		if b < 1 || b >= int(api.OpCount) {
			unread(t, one, api.ErrForm)
			unread(t, one+"\x01\x00\x00", api.ErrForm)
			unread(t, "\x01\x01\x00\x00"+one, api.ErrForm)
			unread(t, "\x01\x01\x00\x00"+one+"\x02", api.ErrForm)
			unread(t, "\x01\x01\x00\x00"+one+"\x03", api.ErrForm)
		}
		if b < 1 || b >= int(api.StepAnd) {
			unread(t, "\x01"+one+"\x00\x00", api.ErrForm)
			unread(t, "\x01\x01\x00\x00\x01"+one+"\x00\x00", api.ErrForm)
			unread(t, "\x01\x01\x00\x00\x01\x01\x00\x00\x01"+one+"\x00\x00", api.ErrForm)
		}
	}
}

// 13.1: texts that are well written, but of programs that are not right.
func TestReadWrong(t *testing.T) {
	for _, p := range [][]api.Instr{{null, null}, {flag}, {not}, {null, join}, {null, and(1)}, {null, and(2)}, {null, and(3)}, {null, or(1)}, {null, or(0)}, {null, or(3)}, {null, or(3), null}, {null, and(4), null, null, same}, {null, null, do(step(api.StepAnd))}} {
		wrong(t, p)
		unread(t, saidText(p), api.ErrForm)
	}
	for _, s := range wrongSteps() {
		for n := range 3 {
			unread(t, saidText(append(times(n, null), do(s))), api.ErrForm)
		}
	}
}

// 13.4, P5: there and back, of any programs; and of any texts.
func TestThereAndBack(t *testing.T) {
	m := newMaker(134)
	met := map[api.Errno]int{}
	for i := range 8000 {
		p := m.program(2 + i%100)
		if i%2 == 0 {
			p, _ = code.Compile(m.expr(1 + i%60))
		}
		s := saidText(p)
		if len(s) > api.MaxBytes {
			continue
		}
		written(t, p, s)
		s = m.bytes(s)
		why := asSaid(t, s)
		met[why]++
		if q, no := code.Read(s); why == api.OK {
			if again, not := code.Text(q); no != api.OK || not != api.OK || again != s {
				t.Errorf("Text of Read(%s): %s, errors %d, %d", show(s), show(again), no, not)
			}
		}
		if t.Failed() {
			return
		}
	}
	if met[api.OK] < 300 || met[api.ErrForm] < 1000 {
		t.Errorf("met %v", met)
	}
}
