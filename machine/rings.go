package machine

import "slices"

// ring keeps the last ones of what was put into it.
type ring[T any] struct {
	kept []T
	last int // where the last one stands
}

// ringOf makes a ring with room for so many, as if the same had been put into it ever since.
func ringOf[T any](room int, same T) ring[T] {
	return ring[T]{kept: slices.Repeat([]T{same}, room)}
}

// room tells how many are kept.
func (r *ring[T]) room() int { return len(r.kept) }

// put lets the oldest one go.
func (r *ring[T]) put(v T) {
	r.last = (r.last + 1) % len(r.kept)
	r.kept[r.last] = v
}

// mend puts another one in the last one's stead.
func (r *ring[T]) mend(v T) { r.kept[r.last] = v }

// back tells which was the last one, so many ahead of it.
func (r *ring[T]) back(ago int) T {
	return r.kept[(r.last+len(r.kept)-ago)%len(r.kept)]
}
