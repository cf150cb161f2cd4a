package impl

import (
	"strconv"
	"strings"
)

// Expr is a node of an expression.
type Expr struct {
	Kind  int
	Value int
	Kids  []Expr
}

// Kinds of expressions, and limits.
const (
	ExprConst    = 1
	ExprVar      = 2
	ExprNot      = 3
	ExprAnd      = 4
	ExprOr       = 5
	ExprEqual    = 6
	ExprLess     = 7
	ExprAdd      = 8
	ExprSub      = 9
	MaxValue     = 3
	MaxVars      = 3
	MaxExprNodes = 15
	MaxExprDepth = 6
)

const (
	variableNames = "xyz"
	// The signs stand in the order of the kinds from ExprAnd on.
	binarySigns = "&|=<+-"
)

// tree is what expressions and formulas have in common: T is the type itself.
type tree[T any] interface {
	// label returns the fields of the node, without its operands.
	label() [2]int
	operands() []T
}

func (e Expr) label() [2]int { return [2]int{e.Kind, e.Value} }

func (e Expr) operands() []Expr { return e.Kids }

// countNodes counts the nodes of a tree if all of them are well formed and none
// is deeper than depth. The bound on the depth makes it end even if the operands
// of a node lead back to the node.
func countNodes[T tree[T]](node T, depth int, wellFormed func(node T) bool) (int, bool) {
	if depth == 0 || !wellFormed(node) {
		return 0, false
	}
	nodes := 1
	for _, kid := range node.operands() {
		n, ok := countNodes(kid, depth-1, wellFormed)
		if !ok {
			return 0, false
		}
		nodes += n
	}
	return nodes, true
}

// treeLists are two lists of operands that have to be equal.
type treeLists[T any] struct {
	a, b []T
}

// treePlaces identifies two lists of operands of the same length.
type treePlaces[T any] struct {
	a, b *T
	size int
}

// sameTrees reports whether a and b are equal in every field, at every level.
//
// Invalid trees may be of any depth, share operands or lead back to themselves,
// so there is no recursion, and no two lists are compared twice.
func sameTrees[T tree[T]](a, b T) bool {
	work := []treeLists[T]{{[]T{a}, []T{b}}}
	seen := map[treePlaces[T]]bool{}
	for len(work) > 0 {
		next := work[len(work)-1]
		work = work[:len(work)-1]
		if len(next.a) != len(next.b) {
			return false
		}
		if len(next.a) == 0 {
			continue
		}
		places := treePlaces[T]{&next.a[0], &next.b[0], len(next.a)}
		if seen[places] {
			continue
		}
		seen[places] = true
		for i, x := range next.a {
			y := next.b[i]
			if x.label() != y.label() {
				return false
			}
			work = append(work, treeLists[T]{x.operands(), y.operands()})
		}
	}
	return true
}

// foldTree computes a result for a valid tree from those of its operands.
func foldTree[T tree[T], R any](node T, step func(node T, kids []R) R) R {
	operands := node.operands()
	var kids []R
	if len(operands) > 0 {
		kids = make([]R, len(operands))
	}
	for i, kid := range operands {
		kids[i] = foldTree(kid, step)
	}
	return step(node, kids)
}

// ExprValid reports whether e is a valid expression.
func ExprValid(e Expr) bool { return ExprNodes(e) > 0 }

// nodeWellFormed checks the node itself, not its operands.
func nodeWellFormed(e Expr) bool {
	switch e.Kind {
	case ExprConst:
		return e.Value >= 0 && e.Value <= MaxValue && len(e.Kids) == 0
	case ExprVar:
		return e.Value >= 0 && e.Value < MaxVars && len(e.Kids) == 0
	case ExprNot:
		return e.Value == 0 && len(e.Kids) == 1
	case ExprAnd, ExprOr, ExprEqual, ExprLess, ExprAdd, ExprSub:
		return e.Value == 0 && len(e.Kids) == 2
	}
	return false
}

// ExprSame reports whether a and b are structurally equal.
func ExprSame(a Expr, b Expr) bool { return sameTrees(a, b) }

// ExprNodes returns the number of nodes of e.
func ExprNodes(e Expr) int {
	nodes, ok := countNodes(e, MaxExprDepth, nodeWellFormed)
	if !ok || nodes > MaxExprNodes {
		return 0
	}
	return nodes
}

// ExprVars reports for each variable whether it occurs in e.
func ExprVars(e Expr) []bool {
	if !ExprValid(e) {
		return nil
	}
	occurs := foldTree(e, occursInNode)
	return occurs[:]
}

func occursInNode(e Expr, kids [][MaxVars]bool) [MaxVars]bool {
	var occurs [MaxVars]bool
	if e.Kind == ExprVar {
		occurs[e.Value] = true
	}
	for _, kid := range kids {
		for i := range occurs {
			occurs[i] = occurs[i] || kid[i]
		}
	}
	return occurs
}

// FormatExpr returns the text of e.
func FormatExpr(e Expr) string {
	if !ExprValid(e) {
		return ""
	}
	return foldTree(e, formatNode)
}

func formatNode(e Expr, kids []string) string {
	switch e.Kind {
	case ExprConst:
		return strconv.Itoa(e.Value)
	case ExprVar:
		return variableNames[e.Value : e.Value+1]
	case ExprNot:
		return "!" + kids[0]
	}
	sign := e.Kind - ExprAnd
	return "(" + kids[0] + binarySigns[sign:sign+1] + kids[1] + ")"
}

// ParseExpr parses the text of an expression.
func ParseExpr(text string) (Expr, bool) {
	var p exprParser
	for i := range len(text) {
		if !p.read(text[i]) {
			return Expr{}, false
		}
	}
	if !p.complete || len(p.open) > 0 || !ExprValid(p.last) {
		return Expr{}, false
	}
	return p.last, true
}

// exprParser reads the text of an expression byte by byte.
type exprParser struct {
	// open is the stack of the nodes that still wait for an operand. The
	// Kind of a node is 0 from its parenthesis until its sign is read.
	open []Expr
	// last is the operand that ends with the last byte, if complete is true.
	last     Expr
	complete bool
}

func (p *exprParser) read(c byte) bool {
	if p.complete {
		return p.readAfterOperand(c)
	}
	return p.readOperand(c)
}

func (p *exprParser) readOperand(c byte) bool {
	variable := strings.IndexByte(variableNames, c)
	switch {
	case c == '!':
		return p.push(Expr{Kind: ExprNot})
	case c == '(':
		return p.push(Expr{})
	case c >= '0' && c <= '0'+MaxValue:
		p.finish(Expr{Kind: ExprConst, Value: int(c - '0')})
	case variable >= 0:
		p.finish(Expr{Kind: ExprVar, Value: variable})
	default:
		return false
	}
	return true
}

// readAfterOperand reads the sign after a left operand or the parenthesis
// after a right one.
func (p *exprParser) readAfterOperand(c byte) bool {
	if len(p.open) == 0 {
		return false
	}
	top := p.open[len(p.open)-1]
	if top.Kind != 0 {
		p.open = p.open[:len(p.open)-1]
		p.finish(Expr{Kind: top.Kind, Kids: []Expr{top.Kids[0], p.last}})
		return c == ')'
	}
	sign := strings.IndexByte(binarySigns, c)
	p.open[len(p.open)-1] = Expr{Kind: ExprAnd + sign, Kids: []Expr{p.last}}
	p.complete = false
	return sign >= 0
}

// push refuses a node whose operands would be too deep, so that the stack stays
// small whatever the length of the text is.
func (p *exprParser) push(e Expr) bool {
	if len(p.open)+1 >= MaxExprDepth {
		return false
	}
	p.open = append(p.open, e)
	return true
}

// finish takes e as an operand, and with it the negations in front of it, since
// their texts end where that of e ends.
func (p *exprParser) finish(e Expr) {
	for n := len(p.open); n > 0 && p.open[n-1].Kind == ExprNot; n-- {
		e = Expr{Kind: ExprNot, Kids: []Expr{e}}
		p.open = p.open[:n-1]
	}
	p.last, p.complete = e, true
}

// EvalExpr evaluates e for the given values of the variables.
func EvalExpr(e Expr, vals []int) (int, bool) {
	if !ExprValid(e) || !valsValid(vals) {
		return 0, false
	}
	return foldTree(e, newNode).eval(vals), true
}

func valsValid(vals []int) bool {
	for _, v := range vals {
		if v < 0 || v > MaxValue {
			return false
		}
	}
	return len(vals) == MaxVars
}

// exprNode is a valid expression in a form that can be evaluated. Its method is
// not exported, so the types below are the only kinds there are.
type exprNode interface {
	eval(vals []int) int
}

type constNode struct{ value int }
type varNode struct{ variable int }
type notNode struct{ a exprNode }
type andNode struct{ a, b exprNode }
type orNode struct{ a, b exprNode }
type equalNode struct{ a, b exprNode }
type lessNode struct{ a, b exprNode }
type addNode struct{ a, b exprNode }
type subNode struct{ a, b exprNode }

func newNode(e Expr, kids []exprNode) exprNode {
	switch e.Kind {
	case ExprVar:
		return varNode{e.Value}
	case ExprNot:
		return notNode{kids[0]}
	case ExprAnd:
		return andNode{kids[0], kids[1]}
	case ExprOr:
		return orNode{kids[0], kids[1]}
	case ExprEqual:
		return equalNode{kids[0], kids[1]}
	case ExprLess:
		return lessNode{kids[0], kids[1]}
	case ExprAdd:
		return addNode{kids[0], kids[1]}
	case ExprSub:
		return subNode{kids[0], kids[1]}
	}
	return constNode{e.Value}
}

func (n constNode) eval(vals []int) int { return n.value }

func (n varNode) eval(vals []int) int { return vals[n.variable] }

func (n notNode) eval(vals []int) int { return truthValue(n.a.eval(vals) == 0) }

func (n andNode) eval(vals []int) int {
	return truthValue(n.a.eval(vals) != 0 && n.b.eval(vals) != 0)
}

func (n orNode) eval(vals []int) int {
	return truthValue(n.a.eval(vals) != 0 || n.b.eval(vals) != 0)
}

func (n equalNode) eval(vals []int) int {
	return truthValue(n.a.eval(vals) == n.b.eval(vals))
}

func (n lessNode) eval(vals []int) int {
	return truthValue(n.a.eval(vals) < n.b.eval(vals))
}

func (n addNode) eval(vals []int) int {
	return (n.a.eval(vals) + n.b.eval(vals)) % (MaxValue + 1)
}

// The modulus is added first, because % of a negative number is not positive.
func (n subNode) eval(vals []int) int {
	return (n.a.eval(vals) - n.b.eval(vals) + MaxValue + 1) % (MaxValue + 1)
}

func truthValue(b bool) int {
	if b {
		return 1
	}
	return 0
}

// SubstExpr replaces a variable by an expression.
func SubstExpr(e Expr, variable int, by Expr) (Expr, bool) {
	if !ExprValid(e) || !ExprValid(by) || variable < 0 || variable >= MaxVars {
		return Expr{}, false
	}
	result := foldTree(e, func(n Expr, kids []Expr) Expr {
		if n.Kind == ExprVar && n.Value == variable {
			// Each occurrence gets a copy of its own: no two parts of a
			// result share memory.
			return foldTree(by, rebuildNode)
		}
		return rebuildNode(n, kids)
	})
	if !ExprValid(result) {
		return Expr{}, false
	}
	return result, true
}

func rebuildNode(e Expr, kids []Expr) Expr {
	return Expr{Kind: e.Kind, Value: e.Value, Kids: kids}
}
