package types

import (
	"touchstone/api"
	"touchstone/ast"
	"touchstone/lex"
)

// looker looks through expressions.
type looker struct {
	known callees
	// bound are by names the bases of what binds them, the innermost last.
	bound map[string][]int
	res   int
}

func newLooker(known callees, res int) looker {
	return looker{known: known, bound: map[string][]int{}, res: res}
}

func (l *looker) bind(name string, base int) { l.bound[name] = append(l.bound[name], base) }

func (l *looker) free(name string) { l.bound[name] = l.bound[name][:len(l.bound[name])-1] }

// clause looks through a clause, if there is one.
func (l *looker) clause(clause []ast.Expr) lex.Fault {
	if len(clause) == 0 {
		return lex.Fault{}
	}
	return l.whole(&clause[0], api.Bool)
}

// whole looks through an expression that must be of a base itself.
func (l *looker) whole(e *ast.Expr, must int) lex.Fault {
	base, f := l.look(e)
	if f.E == api.OK && base != must {
		f = lex.Fault{E: api.ErrType, At: e.At}
	}
	return f
}

// place is an expression that is looked through, how many of its kids are, and the base of the last of these.
type place struct {
	at   *ast.Expr
	done int
	last int
}

// look tells the base of an expression, or the first fault in it: it is looked at itself, then at its kids, and behind each kid whether that is as it must be. The path down to what is looked at is a list, as an expression may be deeper than calls may.
func (l *looker) look(e *ast.Expr) (int, lex.Fault) {
	path := []place{{at: e}}
	for {
		here := path[len(path)-1]
		if here.done == 0 && !l.stands(here.at) {
			return 0, lex.Fault{E: api.ErrForm}
		}
		if here.done < len(here.at.Kids) {
			kid := &here.at.Kids[here.done]
			// A list of kids may have itself inside, and then it has no end: who goes down there finds, sooner or later, at twice a depth what was at that depth.
			if kid == path[len(path)/2].at {
				return 0, lex.Fault{E: api.ErrForm}
			}
			path = append(path, place{at: kid})
			continue
		}
		base := l.baseOf(here)
		path = path[:len(path)-1]
		if len(path) == 0 {
			return base, lex.Fault{}
		}
		around := &path[len(path)-1]
		if must := l.must(*around); must != 0 && must != base {
			return 0, lex.Fault{E: api.ErrType, At: here.at.At}
		}
		l.take(around, base)
	}
}

// stands tells whether an expression has as many kids as its Op, and its name, if that is one of a variable or a call, is of something.
func (l *looker) stands(e *ast.Expr) bool {
	switch e.Op {
	case ast.Lit, ast.Truth, ast.Res:
		return len(e.Kids) == 0
	case ast.Var:
		return len(e.Kids) == 0 && len(l.bound[e.Name]) > 0
	case ast.Neg, ast.Not:
		return len(e.Kids) == 1
	case ast.If:
		return len(e.Kids) == 3
	case ast.Call:
		return l.known.fits(e)
	}
	// All others are of two kids: those with signs, Let and Assert.
	return e.Op > ast.Not && e.Op < ast.Call && len(e.Kids) == 2
}

// baseOf is the base of an expression all of whose kids are done.
func (l *looker) baseOf(p place) int {
	switch p.at.Op {
	case ast.Lit, ast.Neg, ast.Add, ast.Sub, ast.Mul, ast.Div, ast.Mod:
		return api.Int
	case ast.Var:
		bases := l.bound[p.at.Name]
		return bases[len(bases)-1]
	case ast.Res:
		return l.res
	case ast.If, ast.Let, ast.Assert:
		// Of an If the last kid is of the second one's base.
		return p.last
	case ast.Call:
		return l.known.result(p.at)
	}
	return api.Bool
}

// must is what base an expression's next kid must be of; 0, if it may be of either.
func (l *looker) must(p place) int {
	switch p.at.Op {
	case ast.Neg, ast.Add, ast.Sub, ast.Mul, ast.Div, ast.Mod, ast.Lt, ast.Le, ast.Gt, ast.Ge:
		return api.Int
	case ast.Not, ast.And, ast.Or, ast.Imp:
		return api.Bool
	case ast.Eq, ast.Ne:
		// There is none ahead of the first kid.
		return p.last
	case ast.If:
		return [...]int{api.Bool, 0, p.last}[p.done]
	case ast.Assert:
		return [...]int{api.Bool, 0}[p.done]
	case ast.Call:
		return l.known.param(p.at, p.done)
	}
	return 0
}

// take counts a kid that is done. A Let's name is bound in its second kid alone.
func (l *looker) take(p *place, base int) {
	p.done++
	p.last = base
	if p.at.Op != ast.Let {
		return
	}
	if p.done == 1 {
		l.bind(p.at.Name, base)
	} else {
		l.free(p.at.Name)
	}
}
