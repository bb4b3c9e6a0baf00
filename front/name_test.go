package front

import (
	"math"
	"testing"

	"codicil/api"
)

// Not each error comes of a script; their names are asked one by one here.
func TestNames(t *testing.T) {
	for why, want := range map[api.Errno]string{
		api.OK: "ok", api.ErrNil: "nil", api.ErrRange: "range", api.ErrMany: "many", api.ErrLong: "long", api.ErrType: "type", api.ErrState: "state",
		api.ErrUnknown: "unknown", api.ErrFull: "full", api.ErrUtf: "utf", api.ErrDepth: "depth", api.ErrForm: "form", api.ErrDown: "down", api.ErrSyntax: "syntax",
		api.ErrName: "name", api.ErrOver: "over", api.ErrFuel: "fuel", api.ErrConflict: "conflict", api.ErrTwice: "twice", api.ErrChain: "chain",
		20: "?", 21: "?", 255: "?", -1: "?", math.MaxInt: "?", math.MinInt: "?",
	} {
		if got := nameOf(why); got != want {
			t.Errorf("the name of %d is %s, not %s", why, got, want)
		}
		line := want
		if why == api.OK {
			line = "ok 1 x"
		}
		if got := told([]string{"1", "x"}, why); got != line {
			t.Errorf("error %d: %s, not %s", why, got, line)
		}
	}
}

// A crash that has an error leaves the store as it was: no script comes to that.
func TestCrashWithAnError(t *testing.T) {
	d := desk{store: api.Store{Disk: api.Disk{Cap: -1}, Broken: true}}
	if parts, why := d.crash(api.Order{}); len(parts) != 0 || why != api.ErrState || d.store.Disk.Cap != -1 || !d.store.Broken {
		t.Errorf("%v, error %d, %v", parts, why, d.store)
	}
}
