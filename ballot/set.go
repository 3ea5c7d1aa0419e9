package ballot

// Set is a set.
type Set[T comparable] struct {
	elements map[T]struct{}
}

// Add puts something in; Has tells whether it is in; Len how many are.
func (s *Set[T]) Add(x T) (added bool) {
	if s == nil {
		return false
	}
	// Where T is an interface, x may hold what can't be compared: the map panics on it, and has changed nothing.
	defer func() {
		if recover() != nil {
			added = false
		}
	}()
	if s.elements == nil {
		s.elements = map[T]struct{}{}
	}
	had := len(s.elements)
	s.elements[x] = struct{}{}
	return len(s.elements) > had
}

func (s *Set[T]) Has(x T) (in bool) {
	if s == nil {
		return false
	}
	// As in Add: a map without elements panics on it, too.
	defer func() {
		if recover() != nil {
			in = false
		}
	}()
	_, in = s.elements[x]
	return in
}

func (s *Set[T]) Len() int {
	if s == nil {
		return 0
	}
	return len(s.elements)
}
