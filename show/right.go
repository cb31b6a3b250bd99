package show

import (
	"touchstone/api"
	"touchstone/ast"
	"touchstone/lex"
)

// digitBits is more than the binary digits that a decimal digit takes.
const digitBits = 4

func isFormula(e *ast.Expr) bool {
	return isRight(e, func(op int) bool { return op < ast.If })
}

func isBody(e *ast.Expr) bool {
	return isRight(e, func(op int) bool { return op != ast.Res })
}

// place is an expression that is looked at, and how many of its kids are.
type place struct {
	at   *ast.Expr
	done int
}

// isRight tells whether e is right, and of Ops that may be there, and so is all that is in it. The path down to what is looked at is a list, as an expression may be deeper than calls may.
func isRight(e *ast.Expr, may func(op int) bool) bool {
	path := []place{{at: e}}
	for len(path) > 0 {
		last := &path[len(path)-1]
		if last.done == 0 && !(may(last.at.Op) && rightAlone(last.at)) {
			return false
		}
		if last.done == len(last.at.Kids) {
			path = path[:len(path)-1]
			continue
		}
		kid := &last.at.Kids[last.done]
		last.done++
		// A list of kids may have itself inside, and then it has no end: who goes down there finds, sooner or later, at twice a depth what was at that depth.
		if kid == path[len(path)/2].at {
			return false
		}
		path = append(path, place{at: kid})
	}
	return true
}

// rightAlone tells whether an expression is right, but for what its kids are.
func rightAlone(e *ast.Expr) bool {
	return rightCount(e.Op, len(e.Kids)) && rightNames(e) && rightNumber(e) && (e.Op == ast.Truth || !e.Yes)
}

// rightCount tells whether it is an Op that has so many kids.
func rightCount(op, kids int) bool {
	switch op {
	case ast.Lit, ast.Truth, ast.Var, ast.Res:
		return kids == 0
	case ast.Neg, ast.Not:
		return kids == 1
	case ast.If:
		return kids == 3
	case ast.Call:
		return kids <= api.MaxParams
	}
	// All others are of two kids: those with signs, Let and Assert.
	return op > ast.Not && op < ast.Call && kids == 2
}

func rightNames(e *ast.Expr) bool {
	switch e.Op {
	case ast.Var, ast.Let:
		return lex.Plain(e.Name) && e.Module == ""
	case ast.Call:
		return lex.Plain(e.Name) && (e.Module == "" || lex.Plain(e.Module))
	}
	return e.Name == "" && e.Module == ""
}

func rightNumber(e *ast.Expr) bool {
	if e.Op != ast.Lit {
		return e.Num.Sign() == 0
	}
	// The bits are asked first, as the text of a very long number takes long.
	return e.Num.Sign() >= 0 && e.Num.Bits() <= digitBits*api.MaxDigits && len(e.Num.String()) <= api.MaxDigits
}

// rightTyped tells whether it is a base, and a clause or none.
func rightTyped(base int, clause []ast.Expr) bool {
	if base != api.Int && base != api.Bool || len(clause) > 1 {
		return false
	}
	return len(clause) == 0 || isFormula(&clause[0])
}

func rightProgram(p ast.Program) bool {
	if len(p.Imports) > api.MaxImports || len(p.Defs) > api.MaxDefs {
		return false
	}
	for _, i := range p.Imports {
		if !lex.Plain(i.Name) {
			return false
		}
	}
	for _, d := range p.Defs {
		if !rightDef(d) {
			return false
		}
	}
	return true
}

func rightDef(d ast.Def) bool {
	if len(d.Params) > api.MaxParams || !lex.Plain(d.Name) {
		return false
	}
	for _, x := range d.Params {
		if !lex.Plain(x.Name) || !rightTyped(x.Base, x.Clause) {
			return false
		}
	}
	return rightTyped(d.Base, d.Clause) && isBody(&d.Body)
}
