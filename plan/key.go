package plan

import (
	"slices"
	"strings"

	"codicil/api"
	"codicil/expr"
)

// tableOf is the table of a name, and whether there is one; it is not copied.
func tableOf(s api.State, name string) (api.Table, bool) {
	i := slices.IndexFunc(s.Tables, func(t api.Table) bool { return t.Name == name })
	if i < 0 {
		return api.Table{}, false
	}
	return s.Tables[i], true
}

// mayAsk tells whether a statement's condition may ask for a key: that of HISTORY is of other rows than the documents.
func mayAsk(x api.Stmt) bool {
	return x.Kind == api.StmtUpdate || x.Kind == api.StmtDelete || x.Kind == api.StmtSelect && !x.History
}

// lastKind is what an expression's last step is; none, if there is no step.
func lastKind(l []api.Step) api.StepKind {
	if len(l) == 0 {
		return api.StepNone
	}
	return l[len(l)-1].Kind
}

// asked is the index and the key that a first condition asks for, if it does.
func asked(l []api.Step, indexes []string) (string, api.Value, bool) {
	if lastKind(l) != api.StepEqual {
		return "", api.Value{}, false
	}
	first, second, _ := expr.Parts(l)
	if index, key, is := pair(first, second, indexes); is {
		return index, key, true
	}
	return pair(second, first, indexes)
}

// pair is an index and a key, if the one expression is the field and the other one a constant; the index's name lies in the field's memory, which is expr.Parts' answer.
func pair(field, constant []api.Step, indexes []string) (string, api.Value, bool) {
	if len(field) != 1 || field[0].Kind != api.StepPath || !isIndex(field[0].Text, indexes) {
		return "", api.Value{}, false
	}
	key, is := expr.Literal(constant)
	if !is {
		return "", api.Value{}, false
	}
	return field[0].Text, key, true
}

// isIndex tells whether a path is a single name, and an index: anyone may make a state with an index whose name has a full stop in it.
func isIndex(path string, indexes []string) bool {
	return !strings.Contains(path, ".") && slices.Contains(indexes, path)
}
