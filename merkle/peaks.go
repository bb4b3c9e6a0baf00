package merkle

import (
	"math/bits"
	"strings"

	"codicil/api"
	"codicil/sha"
)

// Add are the peaks with a text's leaf behind.
func Add(p api.Peaks, s string) (api.Peaks, api.Errno) {
	switch {
	case !rightPeaks(p):
		return api.Peaks{}, api.ErrState
	case p.Count == api.MaxLeaves:
		return api.Peaks{}, api.ErrMany
	}
	tops, last := clones(p.Tops), leaf(s).digest
	// The ones at the end of Count are the tops that are as great as what came behind them.
	for count := p.Count; count%2 == 1; count /= 2 {
		last = node(tops[len(tops)-1], last).digest
		tops = tops[:len(tops)-1]
	}
	return api.Peaks{Count: p.Count + 1, Tops: append(tops, last)}, api.OK
}

// Top is the root of all that came.
func Top(p api.Peaks) (string, api.Errno) {
	switch {
	case !rightPeaks(p):
		return "", api.ErrState
	case p.Count == 0:
		return sha.Sum(""), api.OK
	}
	last := len(p.Tops) - 1
	root := strings.Clone(p.Tops[last])
	for i := range last {
		root = node(p.Tops[last-1-i], root).digest
	}
	return root, api.OK
}

func rightPeaks(p api.Peaks) bool {
	return p.Count >= 0 && p.Count <= api.MaxLeaves && right(p.Tops, bits.OnesCount(uint(p.Count)))
}
