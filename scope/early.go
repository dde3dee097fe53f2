package scope

import (
	"iter"
	"slices"

	"credenza/api"
)

// isWrong reports whether n, which is valid, is an early error wherever it stands.
func isWrong(n api.Node) bool {
	switch n.Kind {
	case api.SDecl, api.STry:
		return isBarred(n.Name)
	case api.SFunc, api.EFunc:
		return isBarred(n.Name) || slices.ContainsFunc(n.Names, isBarred) || hasTwice(slices.Values(n.Names))
	case api.EAssign, api.EUpdate, api.SForIn:
		return isName(n.L[0]) && isBarred(n.L[0].Name)
	case api.EUnary:
		return n.Name == "delete" && isName(n.L[0])
	case api.EObject:
		return hasTwice(texts(n.L))
	}
	return false
}

// isAstray reports whether n is an early error in body, a function or a program, in
// which it stands within those around it.
func isAstray(n api.Node, around []api.Node, body api.Node) bool {
	switch n.Kind {
	case api.SReturn:
		return !isFunction(body)
	case api.SBreak:
		if n.Name == "" {
			return !slices.ContainsFunc(around, isLoopOrSwitch)
		}
		return !slices.ContainsFunc(around, isLabel(n.Name))
	case api.SContinue:
		if n.Name == "" {
			return !slices.ContainsFunc(around, isLoop)
		}
		i := slices.IndexFunc(around, isLabel(n.Name))
		return i < 0 || !isLoop(labelled(around[i]))
	case api.SLabel:
		return slices.ContainsFunc(around, isLabel(n.Name))
	}
	return false
}

// isBarred reports whether s is a name that nothing may be given.
func isBarred(s string) bool {
	return s == "eval" || s == "arguments"
}

func isName(n api.Node) bool {
	return n.Kind == api.EName
}

func isLoop(n api.Node) bool {
	switch n.Kind {
	case api.SWhile, api.SDo, api.SFor, api.SForIn:
		return true
	}
	return false
}

func isLoopOrSwitch(n api.Node) bool {
	return isLoop(n) || n.Kind == api.SSwitch
}

// isLabel returns what reports whether a node is a label of that name.
func isLabel(name string) func(api.Node) bool {
	return func(n api.Node) bool {
		return n.Kind == api.SLabel && n.Name == name
	}
}

// labelled returns the statement of n, skipping labels.
func labelled(n api.Node) api.Node {
	for n.Kind == api.SLabel {
		n = n.L[0]
	}
	return n
}

// texts enumerates the Texts of l.
func texts(l []api.Node) iter.Seq[string] {
	return func(yield func(string) bool) {
		for _, n := range l {
			if !yield(n.Text) {
				return
			}
		}
	}
}

// hasTwice reports whether two of the texts are equal.
func hasTwice(all iter.Seq[string]) bool {
	known := map[string]struct{}{}
	for s := range all {
		if _, is := known[s]; is {
			return true
		}
		known[s] = struct{}{}
	}
	return false
}
