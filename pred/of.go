package pred

import (
	"touchstone/api"
	"touchstone/ast"
	"touchstone/bag"
	"touchstone/show"
	"touchstone/term"
)

// result is the name of a result, among flags.
const result = "res"

// Of is an expression's predicate.
func Of(e ast.Expr, flags bag.Set[string]) (Pred, api.Errno) {
	if _, bad := show.Formula(e); bad != api.OK {
		return Pred{}, api.ErrForm
	}
	r := reader{flags: flags}
	if bad := r.read(&e); bad != api.OK {
		return Pred{}, bad
	}
	return r.made[0].told()
}

// reader makes predicates of the truths in a formula.
type reader struct {
	flags bag.Set[string]
	// made are those of truths that are done, and wait for what they are in. Some may have parts in common.
	made []Pred
}

// part is an expression that is gone through, and how many of its kids are begun.
type part struct {
	at   *ast.Expr
	done int
}

// read makes the predicate of an expression where a truth must be, or tells the first fault in it. The path down to what is read is a list, as an expression may be deeper than calls may.
func (r *reader) read(e *ast.Expr) api.Errno {
	path := []part{{at: e}}
	for len(path) > 0 {
		last := &path[len(path)-1]
		if r.ofTruths(last.at) && last.done < len(last.at.Kids) {
			kid := &last.at.Kids[last.done]
			last.done++
			path = append(path, part{at: kid})
			continue
		}
		if bad := r.finish(last.at); bad != api.OK {
			return bad
		}
		path = path[:len(path)-1]
	}
	return api.OK
}

// isTruth tells whether an expression is a truth by its Op, or as a flag.
func (r *reader) isTruth(e *ast.Expr) bool {
	switch e.Op {
	case ast.Var:
		return r.flags.Has(e.Name)
	case ast.Res:
		return r.flags.Has(result)
	case ast.Truth, ast.Not:
		return true
	}
	return e.Op >= ast.Eq && e.Op <= ast.Imp
}

// ofTruths tells whether an expression's kids must be truths.
func (r *reader) ofTruths(e *ast.Expr) bool {
	switch e.Op {
	case ast.Not, ast.And, ast.Or, ast.Imp:
		return true
	case ast.Eq, ast.Ne:
		return r.isTruth(&e.Kids[0])
	}
	return false
}

// finish makes the predicate of an expression where a truth must be. If it is of truths, theirs are made.
func (r *reader) finish(e *ast.Expr) api.Errno {
	if r.ofTruths(e) {
		first := len(r.made) - len(e.Kids)
		p := joined(e.Op, r.made[first:])
		r.made = append(r.made[:first], p)
		return api.OK
	}
	p, bad := r.alone(e)
	if bad == api.OK {
		r.made = append(r.made, p)
	}
	return bad
}

// joined is the predicate of an Op of truths.
func joined(op int, kids []Pred) Pred {
	switch op {
	case ast.Not:
		return not(kids[0])
	case ast.And:
		return list(And, kids...)
	case ast.Or:
		return list(Or, kids...)
	case ast.Imp:
		return list(Or, not(kids[0]), kids[1])
	}
	return sameOrNot(op, list(And, list(Or, not(kids[0]), kids[1]), list(Or, not(kids[1]), kids[0])))
}

// sameOrNot is the predicate of an Eq or Ne, from that of the Eq.
func sameOrNot(op int, same Pred) Pred {
	if op == ast.Ne {
		return not(same)
	}
	return same
}

// list is the And or Or of some, or the Not of one, whose own lists of kids it shares.
func list(kind int, kids ...Pred) Pred {
	return Pred{Kind: kind, Kids: append([]Pred(nil), kids...)}
}

func not(p Pred) Pred { return list(Not, p) }

// alone is the predicate of an expression where a truth must be and that isn't of truths.
func (r *reader) alone(e *ast.Expr) (Pred, api.Errno) {
	switch {
	case !r.isTruth(e):
		return Pred{}, api.ErrType
	case e.Op == ast.Truth && e.Yes:
		return Pred{Kind: Yes}, api.OK
	case e.Op == ast.Truth:
		return Pred{Kind: No}, api.OK
	case e.Op == ast.Var:
		return Pred{Kind: Flag, Name: e.Name}, api.OK
	case e.Op == ast.Res:
		return Pred{Kind: Flag, Name: result}, api.OK
	}
	a, bad := r.number(&e.Kids[0])
	if bad != api.OK {
		return Pred{}, bad
	}
	b, bad := r.number(&e.Kids[1])
	if bad != api.OK {
		return Pred{}, bad
	}
	return compared(e.Op, a, b), api.OK
}

// compared is the predicate of an Op of two numbers.
func compared(op int, a, b term.Term) Pred {
	switch op {
	case ast.Lt:
		return atMost(a.Minus(b).Plus(one()))
	case ast.Le:
		return atMost(a.Minus(b))
	case ast.Gt:
		return atMost(b.Minus(a).Plus(one()))
	case ast.Ge:
		return atMost(b.Minus(a))
	}
	return sameOrNot(op, Pred{Kind: Eq, Term: a.Minus(b)})
}

// number is the term of an expression where a number must be, or the first fault in it.
func (r *reader) number(e *ast.Expr) (term.Term, api.Errno) {
	path := []part{{at: e}}
	for len(path) > 0 {
		last := &path[len(path)-1]
		if r.isTruth(last.at) {
			return term.Term{}, firstFault(path)
		}
		if last.done == len(last.at.Kids) {
			path = path[:len(path)-1]
			continue
		}
		kid := &last.at.Kids[last.done]
		last.done++
		path = append(path, part{at: kid})
	}
	return term.Of(*e)
}

// firstFault tells the first fault in an expression on the way down to a truth in it: that, but if something that stands whole ahead of it has no term.
func firstFault(path []part) api.Errno {
	for _, p := range path {
		for i := range p.done - 1 {
			if _, bad := term.Of(p.at.Kids[i]); bad != api.OK {
				return bad
			}
		}
	}
	return api.ErrType
}
