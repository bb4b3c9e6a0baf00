package front

import (
	"math"
	"slices"
	"strconv"
	"strings"

	"codicil/api"
)

// kind is a kind of lines: its word, what stands behind that, and what an order of it does, which tells what stands behind an ok.
type kind struct {
	order   api.OrderKind
	word    string
	numbers int // Id, then Index
	text    bool
	do      func(*desk, api.Order) ([]string, api.Errno)
}

// kinds are all that there are.
func kinds() []kind {
	return []kind{
		{order: api.OrderBegin, word: "begin", do: (*desk).begin},
		{order: api.OrderExec, word: "exec", numbers: 1, text: true, do: (*desk).exec},
		{order: api.OrderCommit, word: "commit", numbers: 1, do: (*desk).commit},
		{order: api.OrderAbort, word: "abort", numbers: 1, do: (*desk).abort},
		{order: api.OrderFuse, word: "fuse", numbers: 1, do: (*desk).fuse},
		{order: api.OrderCrash, word: "crash", numbers: 1, do: (*desk).crash},
		{order: api.OrderTip, word: "tip", do: (*desk).tip},
		{order: api.OrderProve, word: "prove", numbers: 2, do: (*desk).prove},
	}
}

// kindOf is the kind of an order, if it is one.
func kindOf(all []kind, order api.OrderKind) (kind, bool) {
	at := slices.IndexFunc(all, func(k kind) bool { return k.order == order })
	if at < 0 {
		return kind{}, false
	}
	return all[at], true
}

// read is the order of a line, which is told without its LF, if it is one.
func read(all []kind, line string) (api.Order, bool) {
	word, _, _ := strings.Cut(line, " ")
	at := slices.IndexFunc(all, func(k kind) bool { return k.word == word })
	if at < 0 {
		return api.Order{}, false
	}
	return all[at].read(line)
}

func (k kind) read(line string) (api.Order, bool) {
	parts := strings.SplitN(line, " ", k.parts())
	if len(parts) < k.parts() {
		return api.Order{}, false
	}
	o := api.Order{Kind: k.order}
	for i, to := range k.places(&o) {
		// What is no number is 0 then, or something else that is not printed so.
		*to, _ = strconv.Atoi(parts[i+1])
	}
	if k.text {
		o.Text = strings.Clone(parts[len(parts)-1])
	}
	// Signs and needless noughts are in no line that is printed.
	if !k.right(o) || k.print(o) != line {
		return api.Order{}, false
	}
	return o, true
}

// print is an order's line, without its LF.
func (k kind) print(o api.Order) string {
	parts := []string{k.word}
	for _, from := range k.places(&o) {
		parts = append(parts, strconv.Itoa(*from))
	}
	if k.text {
		parts = append(parts, o.Text)
	}
	return strings.Join(parts, " ")
}

// right tells whether an order of the kind is.
func (k kind) right(o api.Order) bool {
	bare := api.Order{Kind: k.order}
	from := k.places(&o)
	for i, to := range k.places(&bare) {
		*to = *from[i]
	}
	if k.text {
		bare.Text = o.Text
	}
	return o == bare && isNumber(o.Id) && isNumber(o.Index) && len(o.Text) <= api.MaxText && !strings.Contains(o.Text, "\n")
}

func isNumber(n int) bool {
	return n >= 0 && n <= math.MaxInt32
}

// parts is how many parts a line has that have a space between.
func (k kind) parts() int {
	if k.text {
		return k.numbers + 2
	}
	return k.numbers + 1
}

// places are those of an order's numbers, in a line's order.
func (k kind) places(o *api.Order) []*int {
	return []*int{&o.Id, &o.Index}[:k.numbers]
}
