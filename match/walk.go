package match

import (
	"iter"

	"thunkmill/api"
)

// inner goes through the expressions that stand in one, not through what stands in these.
func inner(e *api.Expr) iter.Seq[*api.Expr] {
	return func(yield func(*api.Expr) bool) {
		for i := range e.Binds {
			if !yield(&e.Binds[i].E) {
				return
			}
		}
		for i := range e.Args {
			if !yield(&e.Args[i]) {
				return
			}
		}
		for i := range e.Alts {
			if !yield(&e.Alts[i].E) {
				return
			}
		}
	}
}

// kids goes through a node's kids.
func kids(n *api.Node) iter.Seq[*api.Node] {
	return func(yield func(*api.Node) bool) {
		for i := range n.Kids {
			if !yield(&n.Kids[i]) {
				return
			}
		}
	}
}

// once goes through a thing and all that stands in it, in no order that counts, each one time: a list may stand in many places, or among its own parts.
func once[T any](first *T, parts func(it *T) iter.Seq[*T]) iter.Seq[*T] {
	return func(yield func(*T) bool) {
		seen := map[*T]struct{}{first: {}}
		for left := []*T{first}; len(left) > 0; {
			it := left[len(left)-1]
			left = left[:len(left)-1]
			if !yield(it) {
				return
			}
			for part := range parts(it) {
				if _, there := seen[part]; !there {
					seen[part] = struct{}{}
					left = append(left, part)
				}
			}
		}
	}
}
