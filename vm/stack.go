package vm

// stack has items one above the other, the last one on top.
type stack[T any] struct {
	items []T
}

func (s *stack[T]) put(x T) {
	s.items = append(s.items, x)
}

// last is the one on top, which stays; there must be one.
func (s *stack[T]) last() T {
	return s.items[len(s.items)-1]
}

// take are so many from the top, which are taken away, in the order in which they were put; there must be so many. What stays has no room behind, so that what is put next does not lie where these do.
func (s *stack[T]) take(many int) []T {
	rest := len(s.items) - many
	taken := s.items[rest:]
	s.items = s.items[:rest:rest]
	return taken
}
