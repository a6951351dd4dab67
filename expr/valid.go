package expr

import (
	"docstore/api"
	"docstore/path"
	"docstore/value"
)

// Valid returns the first error of an expression.
func Valid(e api.Expr) api.Errno {
	c := checker{}
	return c.check(e, 1)
}

// checker counts the nodes that it checks.
type checker struct {
	nodes int
}

// check returns the first error of a node and those below it.
func (c *checker) check(e api.Expr, level int) api.Errno {
	c.nodes++
	if level > api.MaxDepth || c.nodes > api.MaxPreds {
		return api.ErrLimit
	}
	if errno := checkNode(e); errno != api.OK {
		return errno
	}
	for _, kid := range e.Kids {
		if errno := c.check(kid, level+1); errno != api.OK {
			return errno
		}
	}
	return api.OK
}

func checkNode(e api.Expr) api.Errno {
	switch {
	case !hasOperator(e):
		return api.ErrOp
	case !hasPath(e):
		return api.ErrPath
	case !hasNames(e):
		return api.ErrName
	case e.Op == opValue && !value.Valid(e.Arg):
		return api.ErrKind
	case !leavesRestZero(e):
		return api.ErrForm
	}
	return api.OK
}

// hasOperator reports whether there is such an operator, and whether it can have as many kids.
func hasOperator(e api.Expr) bool {
	if e.Op < opValue || e.Op > api.ExLast {
		return false
	}
	if e.Op == opDoc {
		return len(e.Kids) > 0 && len(e.Kids) == len(e.Names)
	}
	return fits(e.Op, len(e.Kids))
}

func hasPath(e api.Expr) bool {
	switch e.Op {
	case opPath:
		return path.Valid(e.Path)
	case opVar:
		return len(e.Path) == 0 || path.Valid(e.Path)
	}
	return true
}

func hasNames(e api.Expr) bool {
	switch e.Op {
	case opVar, opMap, opFilter:
		return isName(e.Name)
	case opDoc:
		return areDistinct(e.Names, isName)
	}
	return true
}

// leavesRestZero reports whether the fields that the operator does not use are zero or empty.
func leavesRestZero(e api.Expr) bool {
	switch e.Op {
	case opValue:
		e.Arg = api.Value{}
	case opMap, opFilter:
		e.Name = ""
	case opDoc:
		e.Names = nil
	case opVar:
		e.Name = ""
		fallthrough
	case opPath:
		e.Path = nil
	}
	return len(e.Path) == 0 && e.Name == "" && len(e.Names) == 0 && isZero(e.Arg) && e.N == 0
}

func isZero(v api.Value) bool {
	return v.Kind == 0 && v.Int == 0 && v.Text == "" && len(v.List) == 0 && len(v.Doc) == 0
}

// isName leaves the decision to the layer that defines what the steps of a valid path are, which are names.
func isName(s string) bool {
	return path.Valid([]string{s})
}

// areDistinct reports whether strings are accepted, and each of them occurs once.
func areDistinct(l []string, accepts func(string) bool) bool {
	seen := map[string]bool{}
	for _, s := range l {
		if !accepts(s) || seen[s] {
			return false
		}
		seen[s] = true
	}
	return true
}
