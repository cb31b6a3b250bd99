package pred

import (
	"touchstone/api"
	"touchstone/ast"
	"touchstone/bag"
	"touchstone/show"
	"touchstone/term"
)

// result is the name of a result, among flags.
const result = "res"

// Of is an expression's predicate.
func Of(e ast.Expr, flags bag.Set[string]) (Pred, api.Errno) {
	if _, bad := show.Formula(e); bad != api.OK {
		return Pred{}, api.ErrForm
	}
	r := reader{flags: flags}
	if bad := r.read(&e); bad != api.OK {
		return Pred{}, bad
	}
	return r.made[0].own(), api.OK
}

// reader makes predicates of the truths in a formula.
type reader struct {
	flags bag.Set[string]
	// made are those of truths that are done, and wait for what they are in. None is too great; some may have parts in common.
	made []sized
}

// sized is a predicate, and how many are in it, itself too.
type sized struct {
	Pred
	size int
}

// part is an expression that is gone through, and how many of its kids are begun.
type part struct {
	at   *ast.Expr
	done int
}

// read makes the predicate of an expression where a truth must be, or tells the first fault in it. The path down to what is read is a list, as an expression may be deeper than calls may.
func (r *reader) read(e *ast.Expr) api.Errno {
	path := []part{{at: e}}
	for len(path) > 0 {
		last := &path[len(path)-1]
		if r.ofTruths(last.at) && last.done < len(last.at.Kids) {
			kid := &last.at.Kids[last.done]
			last.done++
			path = append(path, part{at: kid})
			continue
		}
		if bad := r.finish(last.at); bad != api.OK {
			return bad
		}
		path = path[:len(path)-1]
	}
	return api.OK
}

// isTruth tells whether an expression is a truth by its Op, or as a flag.
func (r *reader) isTruth(e *ast.Expr) bool {
	switch e.Op {
	case ast.Var:
		return r.flags.Has(e.Name)
	case ast.Res:
		return r.flags.Has(result)
	case ast.Truth, ast.Not:
		return true
	}
	return e.Op >= ast.Eq && e.Op <= ast.Imp
}

// ofTruths tells whether an expression's kids must be truths.
func (r *reader) ofTruths(e *ast.Expr) bool {
	switch e.Op {
	case ast.Not, ast.And, ast.Or, ast.Imp:
		return true
	case ast.Eq, ast.Ne:
		return r.isTruth(&e.Kids[0])
	}
	return false
}

// finish makes the predicate of an expression where a truth must be. If it is of truths, theirs are made. One that is too great is told of here, as another fault may stand behind it.
func (r *reader) finish(e *ast.Expr) api.Errno {
	p, bad := r.truth(e)
	if bad == api.OK && p.size > api.MaxAtoms {
		bad = api.ErrFull
	}
	r.made = append(r.made, p)
	return bad
}

// truth is the predicate of an expression where a truth must be. Of an expression of truths those of its kids don't wait any more.
func (r *reader) truth(e *ast.Expr) (sized, api.Errno) {
	if !r.ofTruths(e) {
		return r.alone(e)
	}
	first := len(r.made) - len(e.Kids)
	kids := r.made[first:]
	r.made = r.made[:first]
	return joined(e.Op, kids), api.OK
}

// joined is the predicate of an Op of truths.
func joined(op int, kids []sized) sized {
	switch op {
	case ast.Not:
		return not(kids[0])
	case ast.And:
		return list(And, kids...)
	case ast.Or:
		return list(Or, kids...)
	case ast.Imp:
		return list(Or, not(kids[0]), kids[1])
	}
	return sameOrNot(op, list(And, list(Or, not(kids[0]), kids[1]), list(Or, not(kids[1]), kids[0])))
}

// sameOrNot is the predicate of an Eq or Ne, from that of the Eq.
func sameOrNot(op int, same sized) sized {
	if op == ast.Ne {
		return not(same)
	}
	return same
}

// list is the And or Or of some, or the Not of one, whose own lists of kids it shares.
func list(kind int, kids ...sized) sized {
	out := single(Pred{Kind: kind})
	for _, kid := range kids {
		out.Kids = append(out.Kids, kid.Pred)
		out.size += kid.size
	}
	return out
}

// single is a predicate that has no kids.
func single(p Pred) sized { return sized{Pred: p, size: 1} }

func not(p sized) sized { return list(Not, p) }

// alone is the predicate of an expression where a truth must be and that isn't of truths.
func (r *reader) alone(e *ast.Expr) (sized, api.Errno) {
	switch {
	case !r.isTruth(e):
		return sized{}, api.ErrType
	case e.Op == ast.Truth && e.Yes:
		return single(Pred{Kind: Yes}), api.OK
	case e.Op == ast.Truth:
		return single(Pred{Kind: No}), api.OK
	case e.Op == ast.Var:
		return single(Pred{Kind: Flag, Name: e.Name}), api.OK
	case e.Op == ast.Res:
		return single(Pred{Kind: Flag, Name: result}), api.OK
	}
	a, bad := r.number(&e.Kids[0])
	if bad != api.OK {
		return sized{}, bad
	}
	b, bad := r.number(&e.Kids[1])
	if bad != api.OK {
		return sized{}, bad
	}
	return compared(e.Op, a, b), api.OK
}

// compared is the predicate of an Op of two numbers.
func compared(op int, a, b term.Term) sized {
	switch op {
	case ast.Lt:
		return single(atMost(a.Minus(b).Plus(one())))
	case ast.Le:
		return single(atMost(a.Minus(b)))
	case ast.Gt:
		return single(atMost(b.Minus(a).Plus(one())))
	case ast.Ge:
		return single(atMost(b.Minus(a)))
	}
	return sameOrNot(op, single(Pred{Kind: Eq, Term: a.Minus(b)}))
}

// number is the term of an expression where a number must be, or the first fault in it.
func (r *reader) number(e *ast.Expr) (term.Term, api.Errno) {
	path := []part{{at: e}}
	for len(path) > 0 {
		last := &path[len(path)-1]
		if r.isTruth(last.at) {
			return term.Term{}, firstFault(path)
		}
		if last.done == len(last.at.Kids) {
			path = path[:len(path)-1]
			continue
		}
		kid := &last.at.Kids[last.done]
		last.done++
		path = append(path, part{at: kid})
	}
	return term.Of(*e)
}

// firstFault tells the first fault in an expression on the way down to a truth in it: that, but if something that stands whole ahead of it has no term.
func firstFault(path []part) api.Errno {
	for _, p := range path {
		for i := range p.done - 1 {
			if _, bad := term.Of(p.at.Kids[i]); bad != api.OK {
				return bad
			}
		}
	}
	return api.ErrType
}
