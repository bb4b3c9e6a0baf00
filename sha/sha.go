// Package sha has digests: see ../../shared/DOC.md and doc/01-sha.md.
package sha

import (
	"math/bits"
	"strings"

	"codicil/api"
)

// size is how many bytes a block has.
const size = 64

// most is what a state's Count stays below.
const most = 1 << 60

var constants = [64]uint32{
	0x428A2F98, 0x71374491, 0xB5C0FBCF, 0xE9B5DBA5, 0x3956C25B, 0x59F111F1, 0x923F82A4, 0xAB1C5ED5,
	0xD807AA98, 0x12835B01, 0x243185BE, 0x550C7DC3, 0x72BE5D74, 0x80DEB1FE, 0x9BDC06A7, 0xC19BF174,
	0xE49B69C1, 0xEFBE4786, 0x0FC19DC6, 0x240CA1CC, 0x2DE92C6F, 0x4A7484AA, 0x5CB0A9DC, 0x76F988DA,
	0x983E5152, 0xA831C66D, 0xB00327C8, 0xBF597FC7, 0xC6E00BF3, 0xD5A79147, 0x06CA6351, 0x14292967,
	0x27B70A85, 0x2E1B2138, 0x4D2C6DFC, 0x53380D13, 0x650A7354, 0x766A0ABB, 0x81C2C92E, 0x92722C85,
	0xA2BFE8A1, 0xA81A664B, 0xC24B8B70, 0xC76C51A3, 0xD192E819, 0xD6990624, 0xF40E3585, 0x106AA070,
	0x19A4C116, 0x1E376C08, 0x2748774C, 0x34B0BCB5, 0x391C0CB3, 0x4ED8AA4A, 0x5B9CCA4F, 0x682E6FF3,
	0x748F82EE, 0x78A5636F, 0x84C87814, 0x8CC70208, 0x90BEFFFA, 0xA4506CEB, 0xBEF9A3F7, 0xC67178F2,
}

// Sum is a text's digest.
func Sum(s string) string {
	rest := s[len(s)-len(s)%size:]
	return finish(change(Start().Words, s), rest, uint64(len(s)))
}

// Start is the state ahead of all bytes.
func Start() api.Sha {
	return api.Sha{Words: [8]uint32{
		0x6A09E667, 0xBB67AE85, 0x3C6EF372, 0xA54FF53A, 0x510E527F, 0x9B05688C, 0x1F83D9AB, 0x5BE0CD19,
	}}
}

// Add is the state behind a further piece.
func Add(x api.Sha, s string) (api.Sha, api.Errno) {
	if !right(x) {
		return api.Sha{}, api.ErrState
	}
	count := x.Count + uint64(len(s))
	if count >= most {
		return api.Sha{}, api.ErrRange
	}
	text := x.Rest + s
	// A piece of the text would keep all of it in memory, so the rest is cloned.
	rest := strings.Clone(text[len(text)-len(text)%size:])
	return api.Sha{Words: change(x.Words, text), Count: count, Rest: rest}, api.OK
}

// End is the digest of what came.
func End(x api.Sha) (string, api.Errno) {
	if !right(x) {
		return "", api.ErrState
	}
	return finish(x.Words, x.Rest, x.Count), api.OK
}

// Hex are a text's bytes in hexadecimal digits.
func Hex(s string) string {
	const digits = "0123456789abcdef"
	out := make([]byte, 0, 2*len(s))
	for i := range len(s) {
		out = append(out, digits[s[i]>>4], digits[s[i]&15])
	}
	return string(out)
}

func right(x api.Sha) bool {
	return x.Count < most && uint64(len(x.Rest)) == x.Count%size
}

// finish is the digest of words that all whole blocks have changed, and of the rest behind them.
func finish(words [8]uint32, rest string, count uint64) string {
	words = change(words, rest+padding(count))
	out := make([]byte, 0, 32)
	for _, w := range words {
		out = appendNumber(out, uint64(w), 4)
	}
	return string(out)
}

// padding is what stands behind a text of so many bytes.
func padding(count uint64) string {
	// The byte 80 itself is one of those that lead to 56 modulo 64; 64 more keep the difference from going below 0.
	noughts := (55 + size - count%size) % size
	out := make([]byte, 1+noughts, 1+noughts+8)
	out[0] = 0x80
	return string(appendNumber(out, 8*count, 8))
}

// appendNumber lays the lowest bytes of a number behind out, the highest one of them first.
func appendNumber(out []byte, n uint64, many int) []byte {
	for i := range many {
		out = append(out, byte(n>>(8*(many-1-i))))
	}
	return out
}

// change is what a text's whole blocks make of the words; what stands behind them is not looked at.
func change(words [8]uint32, text string) [8]uint32 {
	for i := range len(text) / size {
		words = mix(words, spread(text[size*i:size*(i+1)]))
	}
	return words
}

// spread are the 64 words that a block is stretched to.
func spread(block string) [64]uint32 {
	var w [64]uint32
	for i := range 16 {
		b := block[4*i : 4*i+4]
		w[i] = uint32(b[0])<<24 | uint32(b[1])<<16 | uint32(b[2])<<8 | uint32(b[3])
	}
	for i := 16; i < 64; i++ {
		near, far := w[i-2], w[i-15]
		w[i] = w[i-16] + (rotr(far, 7) ^ rotr(far, 18) ^ far>>3) + w[i-7] + (rotr(near, 17) ^ rotr(near, 19) ^ near>>10)
	}
	return w
}

// mix is what a block, stretched to w, makes of the words.
func mix(words [8]uint32, w [64]uint32) [8]uint32 {
	v := words
	for i := range 64 {
		a, b, c, e, f, g := v[0], v[1], v[2], v[4], v[5], v[6]
		t := v[7] + (rotr(e, 6) ^ rotr(e, 11) ^ rotr(e, 25)) + (e&f ^ ^e&g) + constants[i] + w[i]
		u := (rotr(a, 2) ^ rotr(a, 13) ^ rotr(a, 22)) + (a&b ^ a&c ^ b&c)
		copy(v[1:], v[:7])
		v[0] = t + u
		v[4] += t
	}
	for i := range 8 {
		words[i] += v[i]
	}
	return words
}

// rotr turns a word right by n places.
func rotr(x uint32, n int) uint32 {
	return bits.RotateLeft32(x, -n)
}
