package view

import (
	"strings"

	"codicil/api"
	"codicil/code"
	"codicil/plan"
	"codicil/vm"
)

// work is a statement that is being done. What fails panics with the error's number, so that nothing is done behind it.
type work struct {
	now  api.State
	seq  uint64 // of the block that the revisions are to stand in
	room int    // how many more revisions there may be
	fuel int
	plan api.Plan
	rows []api.Value
	revs []api.Rev
}

// do does a statement, and tells its error.
func (w *work) do(x api.Stmt) (why api.Errno) {
	defer func() {
		if failed := recover(); failed != nil {
			why = failed.(api.Errno)
		}
	}()
	w.plan, why = plan.Make(x, w.now)
	must(why)
	w.kinds()[x.Kind]()
	if len(w.revs) > w.room {
		panic(api.ErrFull)
	}
	_, why = behind(w.now, w.seq, w.revs)
	return why
}

// kinds are what does statements of each kind.
func (w *work) kinds() map[api.StmtKind]func() {
	return map[api.StmtKind]func(){
		api.StmtTable:  w.createTable,
		api.StmtIndex:  w.createIndex,
		api.StmtInsert: w.insert,
		api.StmtUpdate: w.update,
		api.StmtDelete: w.remove,
		api.StmtSelect: w.choose,
	}
}

// reads are what the statement hung on, having no error.
func (w *work) reads() []api.Read {
	switch x := w.plan.Stmt; {
	case x.Kind < api.StmtUpdate:
		return nil
	case w.plan.HasKey:
		return []api.Read{{Table: x.Table, Field: w.plan.Index, Key: w.plan.Key}}
	default:
		return []api.Read{{Table: x.Table, All: true}}
	}
}

// add has one revision more, of the statement's table, whose name is copied, since each revision has memory of its own.
func (w *work) add(r api.Rev) {
	r.Table = strings.Clone(w.plan.Stmt.Table)
	w.revs = append(w.revs, r)
}

// burn takes one of fuel.
func (w *work) burn() {
	if w.fuel == 0 {
		panic(api.ErrFuel)
	}
	w.fuel--
}

// run is what a program comes to, of a row's value, with the fuel that is left.
func (w *work) run(p []api.Instr, v api.Value) api.Value {
	out, left, why := vm.Run(p, v, w.fuel)
	must(why)
	w.fuel = left
	return out
}

// holds tells whether a condition does; none always does.
func (w *work) holds(p []api.Instr, v api.Value) bool {
	if len(p) == 0 {
		return true
	}
	is, left, why := vm.Holds(p, v, w.fuel)
	must(why)
	w.fuel = left
	return is
}

// compiled is the program of an expression; of none there is none.
func compiled(l []api.Step) []api.Instr {
	if len(l) == 0 {
		return nil
	}
	p, why := code.Compile(l)
	must(why)
	return p
}

func must(why api.Errno) {
	if why != api.OK {
		panic(why)
	}
}
