package sig

import (
	"strings"

	"touchstone/ast"
)

// place is an expression that is copied, where its copy stands, and how many of its kids are begun.
type place struct {
	from, to *ast.Expr
	done     int
}

// own is a list of expressions in memory of its own, each with an At that is greater by so much. The path down to what is copied is a list, as an expression may be deeper than calls may.
func own(l []ast.Expr, by int) []ast.Expr {
	from, to := ast.Expr{Kids: l}, ast.Expr{}
	path := []place{{from: &from, to: &to}}
	for len(path) > 0 {
		last := &path[len(path)-1]
		if last.done == 0 {
			last.begin(by)
		}
		if last.done == len(last.from.Kids) {
			path = path[:len(path)-1]
			continue
		}
		kid := place{from: &last.from.Kids[last.done], to: &last.to.Kids[last.done]}
		last.done++
		// A list of kids may have itself inside, and then it has no end: who goes down there finds, sooner or later, at twice a depth what was at that depth. No copy is whole then, but the call ends.
		if kid.from == path[len(path)/2].from {
			break
		}
		path = append(path, kid)
	}
	return to.Kids
}

// begin copies an expression, with room for its kids.
func (p place) begin(by int) {
	*p.to = *p.from
	p.to.Name, p.to.Module = strings.Clone(p.from.Name), strings.Clone(p.from.Module)
	p.to.At += by
	p.to.Kids = nil
	if n := len(p.from.Kids); n > 0 {
		p.to.Kids = make([]ast.Expr, n)
	}
}
