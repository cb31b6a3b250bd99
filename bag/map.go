package bag

import (
	"cmp"
	"maps"
	"slices"
)

// Pair is a key and its value.
type Pair[K cmp.Ordered, V any] struct {
	Key   K
	Value V
}

// Map is values by keys.
// Each value stands in its pair, so that pairs need only be sorted to be told.
type Map[K cmp.Ordered, V any] struct{ pairs map[K]Pair[K, V] }

// NewMap is a map of nothing.
func NewMap[K cmp.Ordered, V any]() *Map[K, V] {
	return &Map[K, V]{map[K]Pair[K, V]{}}
}

// Put sets a key's value, and tells whether it had none.
func (m *Map[K, V]) Put(k K, v V) bool {
	_, had := m.pairs[k]
	m.pairs[k] = Pair[K, V]{k, v}
	return !had
}

// Get is a key's value.
func (m *Map[K, V]) Get(k K) (V, bool) {
	p, has := m.pairs[k]
	return p.Value, has
}

// Drop takes a key's value away, and tells whether it had one.
func (m *Map[K, V]) Drop(k K) bool {
	_, had := m.pairs[k]
	delete(m.pairs, k)
	return had
}

// Len is how many keys there are.
func (m *Map[K, V]) Len() int { return len(m.pairs) }

// Pairs are all keys and values, by rising keys.
func (m *Map[K, V]) Pairs() []Pair[K, V] {
	return slices.SortedFunc(maps.Values(m.pairs), func(a, b Pair[K, V]) int {
		return cmp.Compare(a.Key, b.Key)
	})
}

// Keys are all keys, rising.
func (m *Map[K, V]) Keys() []K { return slices.Sorted(maps.Keys(m.pairs)) }

// Copy is a map with the same.
func (m *Map[K, V]) Copy() *Map[K, V] { return &Map[K, V]{maps.Clone(m.pairs)} }
