package front_test

import (
	"fmt"
	"math/big"
	"regexp"
	"strings"

	"codicil/api"
	"codicil/proof"
	"codicil/sha"
	"codicil/store"
)

// What follows are the chapter's words to the letter, by other means than the package's.

// forms are those of lines, by the number of their kind.
var forms = []*regexp.Regexp{
	nil,
	regexp.MustCompile(`^begin\n$`),
	regexp.MustCompile(`^exec ([0-9]+) ([^\n]*)\n$`),
	regexp.MustCompile(`^commit ([0-9]+)\n$`),
	regexp.MustCompile(`^abort ([0-9]+)\n$`),
	regexp.MustCompile(`^fuse ([0-9]+)\n$`),
	regexp.MustCompile(`^crash ([0-9]+)\n$`),
	regexp.MustCompile(`^tip\n$`),
	regexp.MustCompile(`^prove ([0-9]+) ([0-9]+)\n$`),
}

// saidNumber is a number of digits, if it is one.
func saidNumber(digits string) (int, bool) {
	if len(digits) > 1 && digits[0] == '0' {
		return 0, false
	}
	n, _ := new(big.Int).SetString(digits, 10)
	if n.Cmp(big.NewInt(2147483647)) > 0 {
		return 0, false
	}
	return int(n.Int64()), true
}

// saidLine is the order of a line, with its LF, if it is one.
func saidLine(line string) (api.Order, bool) {
	for kind, form := range forms {
		if form == nil {
			continue
		}
		parts := form.FindStringSubmatch(line)
		if parts == nil {
			continue
		}
		o := api.Order{Kind: api.OrderKind(kind)}
		first, second := true, true
		switch len(parts) {
		case 2:
			o.Id, first = saidNumber(parts[1])
		case 3:
			o.Id, first = saidNumber(parts[1])
			if o.Kind == api.OrderProve {
				o.Index, second = saidNumber(parts[2])
			} else {
				o.Text, second = parts[2], len(parts[2]) <= 1024
			}
		}
		return o, first && second
	}
	return api.Order{}, false
}

func saidParse(t string) read {
	if len(t) > 65536 {
		return read{Why: api.ErrLong}
	}
	var out []api.Order
	l := strings.SplitAfter(t, "\n")
	for i, line := range l {
		if i == len(l)-1 && line == "" {
			break
		}
		o, is := saidLine(line)
		if !is {
			return read{Why: api.ErrSyntax, At: i + 1}
		}
		if i == 1024 {
			return read{Why: api.ErrMany, At: i + 1}
		}
		out = append(out, o)
	}
	return read{Orders: out}
}

// saidOrder is an order's line, if it is right.
func saidOrder(o api.Order) (string, bool) {
	if o.Id < 0 || o.Id > 2147483647 || o.Index < 0 || o.Index > 2147483647 {
		return "", false
	}
	noText, noIndex := o.Text == "", o.Index == 0
	bare := noText && noIndex && o.Id == 0
	switch o.Kind {
	case api.OrderBegin:
		return "begin\n", bare
	case api.OrderExec:
		return fmt.Sprintf("exec %d %s\n", o.Id, o.Text), noIndex && len(o.Text) <= 1024 && strings.Count(o.Text, "\n") == 0
	case api.OrderCommit:
		return fmt.Sprintf("commit %d\n", o.Id), noIndex && noText
	case api.OrderAbort:
		return fmt.Sprintf("abort %d\n", o.Id), noIndex && noText
	case api.OrderFuse:
		return fmt.Sprintf("fuse %d\n", o.Id), noIndex && noText
	case api.OrderCrash:
		return fmt.Sprintf("crash %d\n", o.Id), noIndex && noText
	case api.OrderTip:
		return "tip\n", bare
	case api.OrderProve:
		return fmt.Sprintf("prove %d %d\n", o.Id, o.Index), noText
	}
	return "", false
}

func saidPrint(l []api.Order) print {
	out := ""
	for _, o := range l {
		line, right := saidOrder(o)
		if !right {
			return print{Why: api.ErrSyntax}
		}
		out += line
	}
	switch {
	case len(l) > 1024:
		return print{Why: api.ErrSyntax}
	case len(out) > 65536:
		return print{Why: api.ErrLong}
	}
	return print{Text: out}
}

// saidText is a text between two '.
func saidText(s string) string {
	var out []string
	for _, b := range []byte(s) {
		if b < 0x20 || b > 0x7E || strings.IndexByte(`'\`, b) >= 0 {
			out = append(out, fmt.Sprintf(`\%02x`, b))
		} else {
			out = append(out, string(rune(b)))
		}
	}
	return "'" + strings.Join(out, "") + "'"
}

func saidShow(v api.Value) string {
	var parts []string
	switch v.Kind {
	case api.KindNull:
		return "null"
	case api.KindBool:
		return fmt.Sprint(v.B)
	case api.KindInt:
		return fmt.Sprint(v.N)
	case api.KindText:
		return saidText(v.S)
	case api.KindBlob:
		return "x" + saidText(v.S)
	case api.KindList:
		for _, p := range v.List {
			parts = append(parts, saidShow(p))
		}
		return "[" + strings.Join(parts, ", ") + "]"
	case api.KindStruct:
		for _, f := range v.Fields {
			parts = append(parts, saidText(f.Name)+": "+saidShow(f.Value))
		}
		return "{" + strings.Join(parts, ", ") + "}"
	}
	return "?"
}

// saidNames are those of errors, from OK on.
var saidNames = []string{"ok", "nil", "range", "many", "long", "type", "state", "unknown", "full", "utf", "depth", "form", "down", "syntax", "name", "over", "fuel", "conflict", "twice", "chain"}

// saidOne is what comes of an order on a store, which is told, too.
func saidOne(s api.Store, o api.Order) (api.Store, string) {
	var why api.Errno
	var more []any
	n := uint64(len(s.Ledger.Blocks))
	switch o.Kind {
	case api.OrderBegin:
		var id int
		s, id, why = store.Begin(s)
		more = []any{id}
	case api.OrderExec:
		var r api.Result
		s, r, why = store.Exec(s, o.Id, o.Text, 65536)
		more = []any{r.Count}
		for _, v := range r.Rows {
			more = append(more, saidShow(v))
		}
	case api.OrderCommit:
		var seq uint64
		s, seq, why = store.Commit(s, o.Id)
		more = []any{seq}
	case api.OrderAbort:
		s, why = store.Abort(s, o.Id)
	case api.OrderFuse:
		s.Disk.Fuse = o.Id
	case api.OrderCrash:
		s, why = store.Crash(s, o.Id)
	case api.OrderTip:
		var tip api.Tip
		tip, why = proof.Tip(s.Ledger, n)
		more = []any{tip.Seq, sha.Hex(tip.Root)}
	case api.OrderProve:
		var r api.Rev
		var p api.Proof
		r, p, why = proof.Prove(s.Ledger, uint64(o.Id), o.Index, n)
		more = []any{r.Doc, r.Version, saidShow(r.Value), len(p.Path) + len(p.Blocks)}
	}
	if why != api.OK {
		return s, saidNames[why]
	}
	return s, strings.TrimSuffix(fmt.Sprintln(append([]any{"ok"}, more...)...), "\n")
}

func saidRun(room int, t string) run {
	s, why := store.Open(api.Disk{Cap: room, Fuse: -1})
	if why != api.OK {
		return run{Why: why}
	}
	l := saidParse(t)
	if l.Why != api.OK {
		return run{Why: l.Why, At: l.At}
	}
	out := ""
	for _, o := range l.Orders {
		var line string
		s, line = saidOne(s, o)
		out += line + "\n"
	}
	return run{Text: out}
}
