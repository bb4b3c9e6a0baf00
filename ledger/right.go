package ledger

import (
	"slices"

	"codicil/api"
	"codicil/journal"
	"codicil/occ"
	"codicil/own"
	"codicil/table"
)

// width is how many bytes a digest has.
const width = 32

// Fold is what blocks make, and the digest of the last one.
func Fold(blocks []api.Block) (api.State, string, api.Errno) {
	return fold(blocks, func(api.State) {})
}

// Check tells why a ledger is not right.
func Check(l api.Ledger) api.Errno {
	if !rightSessions(l) {
		return api.ErrState
	}
	based := 0
	s, prev, why := fold(l.Blocks, func(s api.State) {
		for _, x := range l.Sessions {
			if own.Same(x.View.Base, s) {
				based++
			}
		}
	})
	// No two states on the way are alike, so that no session is counted twice.
	if why != api.OK || prev != l.Prev || !own.Same(s, l.State) || based < len(l.Sessions) {
		return api.ErrState
	}
	return api.OK
}

// fold is Fold; each state on the way, from that of no blocks on, is handed to pass.
func fold(blocks []api.Block, pass func(api.State)) (api.State, string, api.Errno) {
	if len(blocks) > api.MaxBlocks {
		return api.State{}, "", api.ErrChain
	}
	s, prev := api.State{}, aheadOfAll()
	pass(s)
	for _, b := range blocks {
		// Apply refuses a block that is not right, or whose Seq is not the next one.
		next, why := table.Apply(s, b)
		if why != api.OK || b.Prev != prev {
			return api.State{}, "", api.ErrChain
		}
		head, _ := journal.Short(b)
		s, prev = next, journal.Digest(head)
		pass(s)
	}
	return s, prev, api.OK
}

// rightSessions tells whether a ledger's sessions are, but for what its blocks make.
func rightSessions(l api.Ledger) bool {
	if len(l.Sessions) > api.MaxSess {
		return false
	}
	ahead := 0
	for _, x := range l.Sessions {
		if x.Id <= ahead || x.Id > l.Last {
			return false
		}
		ahead = x.Id
	}
	return !slices.ContainsFunc(l.Sessions, func(x api.Session) bool { return occ.Check(x) != api.OK })
}

// aheadOfAll is the digest ahead of all.
func aheadOfAll() string {
	return string(make([]byte, width))
}
