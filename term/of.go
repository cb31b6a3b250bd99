package term

import (
	"touchstone/api"
	"touchstone/ast"
	"touchstone/show"
	"touchstone/zed"
)

// place is an expression that is gone through, how many of its kids are begun, and whether it is taken away from the sum that it is in.
type place struct {
	at    *ast.Expr
	done  int
	minus bool
}

// next begins the next kid.
func (p *place) next() place {
	kid := place{at: &p.at.Kids[p.done], minus: p.minus}
	switch {
	case p.at.Op == ast.Neg, p.at.Op == ast.Sub && p.done == 1:
		kid.minus = !p.minus
	case p.at.Op == ast.Mul:
		// Each of its kids is in a sum of its own.
		kid.minus = false
	}
	p.done++
	return kid
}

// reader has the parts of the sums that are gone through, the innermost sum last. A sum is added up when all its parts are there.
type reader struct{ sums [][]Term }

func (r *reader) open() { r.sums = append(r.sums, nil) }

func (r *reader) add(t Term, minus bool) {
	if minus {
		t = t.Times(zed.From(-1))
	}
	last := &r.sums[len(r.sums)-1]
	*last = append(*last, t)
}

func (r *reader) close() Term {
	last := len(r.sums) - 1
	t := total(r.sums[last])
	r.sums = r.sums[:last]
	return t
}

// read takes what an expression adds to its sum, ahead of each of its kids and behind the last one. It tells whether there may be a term.
func (r *reader) read(p place) bool {
	switch p.at.Op {
	case ast.Lit:
		r.add(Num(p.at.Num), p.minus)
	case ast.Var:
		r.add(Name(p.at.Name), p.minus)
	case ast.Res:
		r.add(Name("res"), p.minus)
	case ast.Neg, ast.Add, ast.Sub:
		// Their kids are parts of the same sum.
	case ast.Mul:
		return r.readProduct(p)
	default:
		return false
	}
	return true
}

func (r *reader) readProduct(p place) bool {
	if p.done < len(p.at.Kids) {
		r.open()
		return true
	}
	second := r.close()
	t, ok := product(r.close(), second)
	if ok {
		r.add(t, p.minus)
	}
	return ok
}

// product is that of two terms, if one of them has no names.
func product(a, b Term) (Term, bool) {
	if len(a.parts) > 0 {
		a, b = b, a
	}
	if len(a.parts) > 0 {
		return Term{}, false
	}
	return b.Times(a.rest), true
}

// Of is an expression's term. The path down to what is gone through is a list, as an expression may be deeper than calls may.
func Of(e ast.Expr) (Term, api.Errno) {
	if _, bad := show.Formula(e); bad != api.OK {
		return Term{}, api.ErrForm
	}
	var r reader
	r.open()
	path := []place{{at: &e}}
	for len(path) > 0 {
		last := &path[len(path)-1]
		if !r.read(*last) {
			return Term{}, api.ErrLinear
		}
		if last.done == len(last.at.Kids) {
			path = path[:len(path)-1]
			continue
		}
		path = append(path, last.next())
	}
	return r.close(), api.OK
}
