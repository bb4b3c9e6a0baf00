package parse_test

import (
	"strings"
	"sync"

	"codicil/api"
)

// grammar is the chapter's table, and its rows of operators, as rules: what has a rule is no token.
const grammar = `
statement: CREATE TABLE name | CREATE INDEX ON name ( name ) | INSERT INTO name expr | UPDATE name SET sets where | DELETE FROM name where | SELECT what FROM from where order
sets: set | sets , set
set: name = expr
where: | WHERE expr
what: * | items
items: item | items , item
item: expr AS name
from: name | HISTORY ( name )
order: | ORDER BY name | ORDER BY name DESC
expr: and | expr OR and
and: not | and AND not
not: comparison | NOT not
comparison: sum | sum = sum | sum <> sum | sum < sum | sum <= sum | sum > sum | sum >= sum | sum IS NULL | sum IS NOT NULL
sum: product | sum + product | sum - product
product: signed | product * signed
signed: primary | - signed
primary: NULL | TRUE | FALSE | number | text | path | ( expr ) | [ ] | [ exprs ] | { } | { fields }
path: name | path . name | path . number
exprs: expr | exprs , expr
fields: field | fields , field
field: name : expr`

// rules are the grammar's, by what they make.
var rules = sync.OnceValue(func() map[string][][]string {
	out := map[string][][]string{}
	for _, line := range strings.Split(strings.TrimSpace(grammar), "\n") {
		name, rest, _ := strings.Cut(line, ":")
		for _, way := range strings.Split(rest, " |") {
			out[name] = append(out[name], strings.Fields(way))
		}
	}
	return out
})

// symbol is what a token is in the grammar.
func symbol(k api.Token) string {
	switch k.Kind {
	case api.TokenWord:
		return "name"
	case api.TokenInt:
		return "number"
	case api.TokenText:
		return "text"
	}
	return k.Text
}

// state is a rule of which some symbols were read, from a token on.
type state struct {
	makes string
	way   int
	read  int
	from  int
}

// wanted is the symbol that comes next; none behind the last one.
func (x state) wanted() string {
	way := rules()[x.makes][x.way]
	if x.read == len(way) {
		return ""
	}
	return way[x.read]
}

// states are some, none twice, in the order in which they came.
type states struct {
	list []state
	has  map[state]bool
}

func (l *states) add(x state) {
	if l.has == nil {
		l.has = map[state]bool{}
	}
	if !l.has[x] {
		l.has[x] = true
		l.list = append(l.list, x)
	}
}

// wrongAt is the place of the first token with which no statement goes on; how many there are, if it is not whole; below 0, if it is. (Earley's way, that of the package being another one.)
func wrongAt(tokens []api.Token) int {
	sets := make([]states, len(tokens)+1)
	for way := range rules()["statement"] {
		sets[0].add(state{makes: "statement", way: way})
	}
	for i := range sets {
		grow(sets, i)
		if i == len(tokens) {
			break
		}
		for _, x := range sets[i].list {
			if x.wanted() == symbol(tokens[i]) {
				x.read++
				sets[i+1].add(x)
			}
		}
		if len(sets[i+1].list) == 0 {
			return i
		}
	}
	for _, x := range sets[len(tokens)].list {
		if x.makes == "statement" && x.from == 0 && x.wanted() == "" {
			return -1
		}
	}
	return len(tokens)
}

// grow lays into a set all that its states ask for and end.
func grow(sets []states, i int) {
	set := &sets[i]
	for n := 0; n < len(set.list); n++ {
		x := set.list[n]
		if wanted := x.wanted(); wanted != "" {
			for way, symbols := range rules()[wanted] {
				set.add(state{makes: wanted, way: way, from: i})
				// What may be nothing is read at once.
				if len(symbols) == 0 {
					y := x
					y.read++
					set.add(y)
				}
			}
			continue
		}
		for _, y := range sets[x.from].list {
			if y.wanted() == x.makes {
				y.read++
				set.add(y)
			}
		}
	}
}
