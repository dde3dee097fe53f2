package tree

import (
	"credenza/api"
	"credenza/token"
	"credenza/units"
)

// isRight reports whether n has the fields of its Kind, and children of the right
// Kinds. What the children have in turn is not told, except where it decides
// whether they may stand in n.
func isRight(n api.Node) bool {
	return hasFields(n) && hasChildren(n)
}

// hasFields reports whether the fields of n, except for L, are those of its Kind.
func hasFields(n api.Node) bool {
	name, num, text, names := n.Name == "", n.Num == 0, n.Text == "", len(n.Names) == 0
	switch n.Kind {
	case api.ENum:
		num = 0 <= n.Num && n.Num <= api.MaxSafe
	case api.EBool:
		num = isBit(n.Num)
	case api.EStr, api.EProp:
		text = units.Check(n.Text)
	case api.EName, api.SDecl, api.SLabel:
		name = isName(n.Name)
	case api.EMember:
		name = token.IsIdent(n.Name)
	case api.SBreak, api.SContinue:
		name = name || isName(n.Name)
	case api.EFunc:
		name, names = name || isName(n.Name), all(n.Names, isName)
	case api.SFunc:
		name, names = isName(n.Name), all(n.Names, isName)
	case api.STry:
		if catches(n) {
			name = isName(n.Name)
		}
	case api.EUpdate:
		name, num = isOperator(n), isBit(n.Num)
	case api.EUnary, api.EBinary, api.ELogic, api.EAssign:
		name = isOperator(n)
	}
	return name && num && text && names
}

// isOperator reports whether the Name of n is one of the operators of its Kind.
func isOperator(n api.Node) bool {
	switch n.Kind {
	case api.EUnary:
		switch n.Name {
		case "-", "+", "!", "typeof", "delete", "void":
			return true
		}
	case api.EUpdate:
		return n.Name == "++" || n.Name == "--"
	case api.EBinary:
		return operatorLevel(n.Name) >= equalLevel
	case api.ELogic:
		return n.Name == "&&" || n.Name == "||"
	case api.EAssign:
		switch n.Name {
		case "=", "+=", "-=", "*=", "/=", "%=":
			return true
		}
	}
	return false
}

// hasChildren reports whether n has as many children as a node of its Kind, and of
// the right Kinds.
func hasChildren(n api.Node) bool {
	l := n.L
	switch n.Kind {
	case api.Program, api.EFunc, api.SFunc:
		return all(l, isStatement)
	case api.EArray:
		return all(l, isExpr)
	case api.EObject:
		return all(l, isProp)
	case api.ECall, api.ENew:
		return len(l) > 0 && all(l, isExpr)
	case api.EProp, api.EMember, api.EUnary, api.SExpr, api.SThrow:
		return are(l, isExpr)
	case api.EIndex, api.EBinary, api.ELogic, api.EComma:
		return are(l, isExpr, isExpr)
	case api.ECond:
		return are(l, isExpr, isExpr, isExpr)
	case api.EUpdate:
		return are(l, IsTarget)
	case api.EAssign:
		return are(l, IsTarget, isExpr)
	case api.SVar:
		return len(l) > 0 && all(l, isDecl)
	case api.SDecl, api.SReturn:
		return len(l) == 0 || are(l, isExpr)
	case api.SBlock:
		return all(l, isInner)
	case api.SIf:
		return are(l, isExpr, isBlock) || are(l, isExpr, isBlock, isBlock)
	case api.SWhile:
		return are(l, isExpr, isBlock)
	case api.SDo:
		return are(l, isBlock, isExpr)
	case api.SFor:
		return are(l, isBeginning, isExprOrEmpty, isExprOrEmpty, isBlock)
	case api.SForIn:
		return are(l, isTaker, isExpr, isBlock)
	case api.STry:
		return are(l, isBlock, isBlockOrEmpty, isBlockOrEmpty) && (isBlock(l[1]) || isBlock(l[2]))
	case api.SSwitch:
		return len(l) > 0 && isExpr(l[0]) && all(l[1:], isCase) && count(l[1:], isDefault) <= 1
	case api.SCase:
		return len(l) > 0 && isExprOrEmpty(l[0]) && all(l[1:], isInner)
	case api.SLabel:
		return are(l, isInner)
	}
	return len(l) == 0
}

// are reports whether l has one node for each of the sorts, in order.
func are(l []api.Node, sorts ...func(api.Node) bool) bool {
	if len(l) != len(sorts) {
		return false
	}
	for i, is := range sorts {
		if !is(l[i]) {
			return false
		}
	}
	return true
}

// all reports whether all elements of l are of that sort.
func all[T any](l []T, is func(T) bool) bool {
	return count(l, is) == len(l)
}

// count returns how many elements of l are of that sort.
func count[T any](l []T, is func(T) bool) int {
	n := 0
	for _, x := range l {
		if is(x) {
			n++
		}
	}
	return n
}

func isBit(n int64) bool {
	return n == 0 || n == 1
}

func isName(s string) bool {
	return token.IsIdent(s) && !token.IsWord(s)
}

// isExpr reports whether n is an expression. A property is listed among them, but
// stands in an object alone.
func isExpr(n api.Node) bool {
	return api.ENum <= n.Kind && n.Kind <= api.EComma && !isProp(n)
}

// isStatement reports whether n is a statement. Declarations and cases are listed
// among them, but stand in a var and in a switch alone.
func isStatement(n api.Node) bool {
	return api.SVar <= n.Kind && n.Kind <= api.SEmpty && !isDecl(n) && !isCase(n)
}

// isInner reports whether n is a statement that may stand in others.
func isInner(n api.Node) bool {
	return isStatement(n) && n.Kind != api.SFunc
}

// isBeginning reports whether an SFor may begin with n.
func isBeginning(n api.Node) bool {
	return n.Kind == api.SVar || isExprOrEmpty(n)
}

// isTaker reports whether n may be what an SForIn gives values to.
func isTaker(n api.Node) bool {
	return IsTarget(n) || n.Kind == api.SVar && len(n.L) == 1 && len(n.L[0].L) == 0
}

func isExprOrEmpty(n api.Node) bool {
	return isExpr(n) || isEmpty(n)
}

func isBlockOrEmpty(n api.Node) bool {
	return isBlock(n) || isEmpty(n)
}

func isProp(n api.Node) bool {
	return n.Kind == api.EProp
}

func isDecl(n api.Node) bool {
	return n.Kind == api.SDecl
}

func isBlock(n api.Node) bool {
	return n.Kind == api.SBlock
}

func isCase(n api.Node) bool {
	return n.Kind == api.SCase
}

func isEmpty(n api.Node) bool {
	return n.Kind == api.Empty
}

// isDefault reports whether n, an SCase, has no value.
func isDefault(n api.Node) bool {
	return len(n.L) > 0 && isEmpty(n.L[0])
}

// catches reports whether n, an STry, has a block for what was thrown.
func catches(n api.Node) bool {
	return len(n.L) > 1 && isBlock(n.L[1])
}
