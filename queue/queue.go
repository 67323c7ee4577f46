// Package queue keeps the first ones of many elements in order.
package queue

import "slices"

// Queue keeps the first ones of what is put into it, in order.
type Queue[T any] struct {
	compare func(a, b T) int
	most    int
	waiting []T
}

// New returns a queue of at most most elements, which is empty.
func New[T any](most int, compare func(a, b T) int) *Queue[T] {
	return &Queue[T]{compare: compare, most: most}
}

// Put puts an element in order. It reports whether the element is among the
// first ones.
func (q *Queue[T]) Put(x T) bool {
	at, _ := slices.BinarySearchFunc(q.waiting, x, q.compare)
	if at == q.most {
		return false
	}
	kept := min(len(q.waiting), q.most-1)
	q.waiting = slices.Insert(q.waiting[:kept], at, x)
	return true
}

// Take removes the first element. If there is none, ok is false.
func (q *Queue[T]) Take() (first T, ok bool) {
	if len(q.waiting) == 0 {
		return first, false
	}
	first = q.waiting[0]
	q.waiting = slices.Delete(q.waiting, 0, 1)
	return first, true
}
