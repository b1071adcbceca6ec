package count

// A memo keeps the values of a function.
type memo[K comparable, V any] struct {
	values  map[K]V
	compute func(K) V
}

func newMemo[K comparable, V any](compute func(K) V) *memo[K, V] {
	return &memo[K, V]{map[K]V{}, compute}
}

// of returns the value for a key, and computes it if it is missing.
func (m *memo[K, V]) of(key K) V {
	v, ok := m.values[key]
	if !ok {
		v = m.compute(key)
		m.values[key] = v
	}
	return v
}
