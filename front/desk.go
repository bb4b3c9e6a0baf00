package front

import (
	"strconv"
	"strings"

	"codicil/api"
	"codicil/proof"
	"codicil/sha"
	"codicil/store"
)

// names are those of errors, from OK on.
const names = "ok nil range many long type state unknown full utf depth form down syntax name over fuel conflict twice chain"

// told is a line of what comes of an order, without its LF; parts are what stands behind an ok.
func told(parts []string, why api.Errno) string {
	if why != api.OK {
		return nameOf(why)
	}
	return strings.Join(append([]string{nameOf(why)}, parts...), " ")
}

func nameOf(why api.Errno) string {
	all := strings.Fields(names)
	if why < 0 || int(why) >= len(all) {
		return "?"
	}
	return all[why]
}

// desk is where orders are done: its store goes on from one to the next.
type desk struct {
	store api.Store
}

func (d *desk) begin(api.Order) (parts []string, why api.Errno) {
	var id int
	d.store, id, why = store.Begin(d.store)
	return []string{strconv.Itoa(id)}, why
}

func (d *desk) exec(o api.Order) (parts []string, why api.Errno) {
	var r api.Result
	d.store, r, why = store.Exec(d.store, o.Id, o.Text, api.MaxFuel)
	parts = append(parts, strconv.Itoa(r.Count))
	for _, v := range r.Rows {
		parts = append(parts, Show(v))
	}
	return parts, why
}

func (d *desk) commit(o api.Order) (parts []string, why api.Errno) {
	var seq uint64
	d.store, seq, why = store.Commit(d.store, o.Id)
	return []string{digits(seq)}, why
}

func (d *desk) abort(o api.Order) (parts []string, why api.Errno) {
	d.store, why = store.Abort(d.store, o.Id)
	return nil, why
}

func (d *desk) fuse(o api.Order) ([]string, api.Errno) {
	d.store.Disk.Fuse = o.Id
	return nil, api.OK
}

func (d *desk) crash(o api.Order) ([]string, api.Errno) {
	s, why := store.Crash(d.store, o.Id)
	// A crash that has an error tells no store.
	if why == api.OK {
		d.store = s
	}
	return nil, why
}

func (d *desk) tip(api.Order) ([]string, api.Errno) {
	t, why := proof.Tip(d.store.Ledger, d.blocks())
	return []string{digits(t.Seq), sha.Hex(t.Root)}, why
}

func (d *desk) prove(o api.Order) ([]string, api.Errno) {
	r, p, why := proof.Prove(d.store.Ledger, uint64(o.Id), o.Index, d.blocks())
	many := len(p.Path) + len(p.Blocks)
	return []string{digits(r.Doc), digits(r.Version), Show(r.Value), strconv.Itoa(many)}, why
}

func (d *desk) blocks() uint64 {
	return uint64(len(d.store.Ledger.Blocks))
}

func digits(n uint64) string {
	return strconv.FormatUint(n, 10)
}
