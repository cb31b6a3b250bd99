package scope

import (
	"touchstone/api"
	"touchstone/ast"
	"touchstone/lex"
)

// looker looks through the expressions of a definition.
type looker struct {
	known functions
	// bound is by names how many parameters and Lets around bind it.
	bound  map[string]int
	mayRes bool
}

// checkDef looks through a definition of a right program.
func checkDef(d ast.Def, known functions) lex.Fault {
	l := looker{known: known, bound: map[string]int{}}
	for _, x := range d.Params {
		if l.bound[x.Name] > 0 {
			return lex.Fault{E: api.ErrTwice, At: x.At}
		}
		l.bound[x.Name]++
		if f := l.clause(x.Clause); f.E != api.OK {
			return f
		}
	}
	l.mayRes = true
	if f := l.clause(d.Clause); f.E != api.OK {
		return f
	}
	return l.expr(&d.Body)
}

// clause looks through a clause, if there is one.
func (l *looker) clause(clause []ast.Expr) lex.Fault {
	if len(clause) == 0 {
		return lex.Fault{}
	}
	return l.expr(&clause[0])
}

// place is an expression that is looked at, and how many of its kids are begun.
type place struct {
	at   *ast.Expr
	done int
}

// expr looks at a right expression, then at its kids. The path down to what is looked at is a list, as an expression may be deeper than calls may.
func (l *looker) expr(e *ast.Expr) lex.Fault {
	path := []place{{at: e}}
	for len(path) > 0 {
		last := &path[len(path)-1]
		if last.done == 0 {
			if wrong := l.wrong(last.at); wrong != api.OK {
				return lex.Fault{E: wrong, At: last.at.At}
			}
		}
		l.bind(*last)
		if last.done == len(last.at.Kids) {
			path = path[:len(path)-1]
			continue
		}
		kid := &last.at.Kids[last.done]
		last.done++
		path = append(path, place{at: kid})
	}
	return lex.Fault{}
}

// wrong is the error of an expression itself.
func (l *looker) wrong(e *ast.Expr) api.Errno {
	switch {
	case e.Op == ast.Var && l.bound[e.Name] == 0, e.Op == ast.Res && !l.mayRes:
		return api.ErrName
	case e.Op == ast.Call:
		return l.known.wrong(e)
	}
	return api.OK
}

// bind has a Let's name bound in its second kid alone.
func (l *looker) bind(p place) {
	if p.at.Op != ast.Let {
		return
	}
	switch p.done {
	case 1:
		l.bound[p.at.Name]++
	case 2:
		l.bound[p.at.Name]--
	}
}
