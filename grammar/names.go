package grammar

import "slices"

// few is the number of names up to which a search through all of them is faster than a map.
const few = 16

// A nameSet is a set of names. The index is made when there are more than few.
type nameSet struct {
	list  []string
	index map[string]bool
}

// add adds a name. It returns false if the name is empty or already in the set.
func (s *nameSet) add(name string) bool {
	if name == "" || s.has(name) {
		return false
	}
	if s.index != nil {
		s.index[name] = true
		return true
	}
	s.list = append(s.list, name)
	if len(s.list) > few {
		s.index = make(map[string]bool)
		for _, name := range s.list {
			s.index[name] = true
		}
	}
	return true
}

func (s *nameSet) has(name string) bool {
	if s.index != nil {
		return s.index[name]
	}
	return slices.Contains(s.list, name)
}

// identifier reports whether a string is an identifier.
func identifier(s string) bool {
	for i := range len(s) {
		if !isLetter(s[i]) && (i == 0 || !isDigit(s[i])) {
			return false
		}
	}
	return s != ""
}

func isLetter(b byte) bool {
	return b >= 'a' && b <= 'z' || b >= 'A' && b <= 'Z' || b == '_'
}

func isDigit(b byte) bool { return b >= '0' && b <= '9' }
