package scope

import (
	"iter"

	"credenza/api"
)

// within enumerates the nodes within l in the order of the text, each of them with
// those that it stands in, the outermost first; these are for the time of one step
// alone. There is no recursion, because nodes that are not valid may be nested more
// deeply than a stack can hold.
func within(l []api.Node) iter.Seq2[[]api.Node, api.Node] {
	return func(yield func([]api.Node, api.Node) bool) {
		var around []api.Node
		// What is left of l, and then of the children of each of those around.
		for left := [][]api.Node{l}; len(left) > 0; {
			last := len(left) - 1
			if len(left[last]) == 0 {
				left, around = left[:last], around[:max(last-1, 0)]
				continue
			}
			n := left[last][0]
			left[last] = left[last][1:]
			if !yield(around, n) {
				return
			}
			if !isFunction(n) {
				left, around = append(left, n.L), append(around, n)
			}
		}
	}
}

// isFunction reports whether the nodes in n are not within what n is within.
func isFunction(n api.Node) bool {
	return n.Kind == api.EFunc || n.Kind == api.SFunc
}
