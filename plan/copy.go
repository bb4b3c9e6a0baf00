package plan

import (
	"strings"

	"codicil/api"
)

// copyStmt is a statement in memory of its own.
func copyStmt(x api.Stmt) api.Stmt {
	x.Table = strings.Clone(x.Table)
	x.Field = strings.Clone(x.Field)
	x.Items = copies(x.Items, func(i api.Item) api.Item {
		return api.Item{Name: strings.Clone(i.Name), Expr: copySteps(i.Expr)}
	})
	x.Expr = copySteps(x.Expr)
	return x
}

func copySteps(l []api.Step) []api.Step {
	return copies(l, func(s api.Step) api.Step {
		s.Text = strings.Clone(s.Text)
		return s
	})
}

// copies makes no list of an empty one: nil and empty lists are alike.
func copies[T any](l []T, copyOf func(T) T) []T {
	if len(l) == 0 {
		return nil
	}
	out := make([]T, len(l))
	for i, x := range l {
		out[i] = copyOf(x)
	}
	return out
}
