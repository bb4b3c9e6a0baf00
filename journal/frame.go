package journal

import (
	"iter"

	"codicil/api"
	"codicil/sha"
)

// A frame begins with how many bytes its text has, and with the seal behind that.
const (
	countWidth = 4
	sealWidth  = 8
	startWidth = countWidth + sealWidth
)

// Frame is a block's frame.
func Frame(b api.Block) (string, api.Errno) {
	text, why := Text(b)
	if why != api.OK {
		return "", why
	}
	count := counted(len(text))
	return count + seal(count, text) + text, api.OK
}

// Scan are the blocks that stand in s, and how many bytes their frames have.
func Scan(s string) ([]api.Block, int) {
	var blocks []api.Block
	size, prev := 0, aheadOfAll()
	for text := range frames(s) {
		b, why := Read(text)
		if why != api.OK || b.Seq != uint64(len(blocks))+1 || b.Prev != prev {
			break
		}
		blocks = append(blocks, b)
		size += startWidth + len(text)
		prev = Digest(headOf(b))
	}
	return blocks, size
}

// frames are the texts of those that stand at the beginning of s behind one another, whole and sealed.
func frames(s string) iter.Seq[string] {
	return func(yield func(string) bool) {
		rest := s
		for {
			text, whole := firstFrame(rest)
			if !whole || !yield(text) {
				return
			}
			rest = rest[startWidth+len(text):]
		}
	}
}

// firstFrame is the text of the frame with which s begins, and whether it begins with one.
func firstFrame(s string) (string, bool) {
	if len(s) < startWidth {
		return "", false
	}
	count, mark, rest := s[:countWidth], s[countWidth:startWidth], s[startWidth:]
	many := uncounted(count)
	// No block has a text beyond MaxBytes, so that no such one is digested, be it whole or not.
	if many > uint64(min(len(rest), api.MaxBytes)) {
		return "", false
	}
	text := rest[:many]
	if seal(count, text) != mark {
		return "", false
	}
	return text, true
}

// seal tells a text that is whole from one that is torn.
func seal(count, text string) string {
	return sha.Sum(count + text)[:sealWidth]
}

// counted is a number's lowest bytes, the lowest one first.
func counted(n int) string {
	out := make([]byte, countWidth)
	for i := range out {
		out[i] = byte(n >> (8 * i))
	}
	return string(out)
}

func uncounted(s string) uint64 {
	var n uint64
	for i := range len(s) {
		n |= uint64(s[i]) << (8 * i)
	}
	return n
}
