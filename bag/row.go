package bag

// Row is things, the oldest first, in a ring: they begin at first, and go on at the ring's beginning when they come to its end.
type Row[T any] struct {
	ring  []T
	first int
	count int
}

// NewRow is a row of things.
func NewRow[T any](items ...T) *Row[T] {
	r := &Row[T]{}
	r.Push(items...)
	return r
}

// Push adds things.
func (r *Row[T]) Push(items ...T) {
	r.makeRoom(len(items))
	for _, x := range items {
		*r.slot(r.count) = x
		r.count++
	}
}

// makeRoom lets the ring have room for more things. It at least doubles, so that one push costs little, however many there are.
func (r *Row[T]) makeRoom(more int) {
	if more <= len(r.ring)-r.count {
		return
	}
	ring := make([]T, max(r.count+more, 2*len(r.ring)))
	r.copyTo(ring)
	r.ring, r.first = ring, 0
}

// slot is where the thing stands ahead of which there are i; the ring isn't empty.
func (r *Row[T]) slot(i int) *T { return &r.ring[(r.first+i)%len(r.ring)] }

// copyTo copies all things, the oldest first, to out, which has room for them.
func (r *Row[T]) copyTo(out []T) {
	out = out[:r.count]
	n := copy(out, r.ring[r.first:])
	copy(out[n:], r.ring)
}

// Pop takes the oldest away.
func (r *Row[T]) Pop() (T, bool) {
	if r.count == 0 {
		var none T
		return none, false
	}
	x := r.lift(0)
	r.first = (r.first + 1) % len(r.ring)
	r.count--
	return x, true
}

// Last takes the youngest away.
func (r *Row[T]) Last() (T, bool) {
	if r.count == 0 {
		var none T
		return none, false
	}
	r.count--
	return r.lift(r.count), true
}

// lift empties a slot, so that what was taken away isn't kept, and tells what stood there.
func (r *Row[T]) lift(i int) T {
	var none T
	slot := r.slot(i)
	x := *slot
	*slot = none
	return x
}

// Len is how many there are.
func (r *Row[T]) Len() int { return r.count }

// All are all of them.
func (r *Row[T]) All() []T {
	out := make([]T, r.count)
	r.copyTo(out)
	return out
}
