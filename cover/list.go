package cover

import "iter"

// list is linked in both directions. A link that was removed keeps its neighbours, so that it can be put back where it was: the last one that was removed first.
type list[T any] struct {
	ends   link[T] // before the first link, and after the last one
	length int
}

type link[T any] struct {
	value        T
	before, next *link[T]
	in           *list[T]
}

// start makes the list empty; before that it is not usable.
func (l *list[T]) start() {
	l.ends.before, l.ends.next = &l.ends, &l.ends
	l.length = 0
}

// add returns a new last link.
func (l *list[T]) add(value T) *link[T] {
	k := &link[T]{value, l.ends.before, &l.ends, l}
	k.restore()
	return k
}

func (k *link[T]) remove() {
	k.before.next, k.next.before = k.next, k.before
	k.in.length--
}

func (k *link[T]) restore() {
	k.before.next, k.next.before = k, k
	k.in.length++
}

// first returns the value of the first link; the list is not empty.
func (l *list[T]) first() T {
	return l.ends.next.value
}

// values yields the values in their order. What it has yielded may be removed meanwhile.
func (l *list[T]) values() iter.Seq[T] {
	return func(yield func(T) bool) {
		for k := l.ends.next; k != &l.ends; k = k.next {
			if !yield(k.value) {
				return
			}
		}
	}
}
