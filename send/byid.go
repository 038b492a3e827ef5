package send

import (
	"cmp"
	"iter"
	"slices"
)

// entry is an id, and what stands by it.
type entry[T any] struct {
	id int
	of *T
}

// byID is things that stand by ids, which rise: so that they need no sorting whenever
// they are gone through.
type byID[T any] []entry[T]

// place is where an id's entry is, or would be, and whether it is there.
func (l byID[T]) place(id int) (int, bool) {
	return slices.BinarySearchFunc(l, id, func(e entry[T], id int) int { return cmp.Compare(e.id, id) })
}

// get is what stands by an id; nil, if nothing does.
func (l byID[T]) get(id int) *T {
	i, ok := l.place(id)
	if !ok {
		return nil
	}
	return l[i].of
}

// put lets a thing stand by an id, by which nothing stands.
func (l *byID[T]) put(id int, of *T) {
	i, _ := l.place(id)
	*l = slices.Insert(*l, i, entry[T]{id, of})
}

// drop lets what stands by an id go.
func (l *byID[T]) drop(id int) {
	if i, ok := l.place(id); ok {
		*l = slices.Delete(*l, i, i+1)
	}
}

// rising goes through all things by their ids.
func (l byID[T]) rising() iter.Seq2[int, *T] {
	return func(yield func(int, *T) bool) {
		for _, e := range l {
			if !yield(e.id, e.of) {
				return
			}
		}
	}
}
