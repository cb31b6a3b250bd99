package types

import (
	"slices"

	"touchstone/ast"
	"touchstone/scope"
	"touchstone/sig"
)

// callees are the signatures of what a program calls. Each that was asked for is kept, as layer 11 copies whole clauses.
type callees struct {
	p     ast.Program
	faces []sig.Face
	found map[called]sig.Sig
}

// called is what a call names.
type called struct{ module, name string }

func newCallees(p ast.Program, faces []sig.Face) callees {
	return callees{p: p, faces: faces, found: map[called]sig.Sig{}}
}

// of is the signature of what a call calls, if there is one.
func (c callees) of(call *ast.Expr) (sig.Sig, bool) {
	key := called{module: call.Module, name: call.Name}
	if s, ok := c.found[key]; ok {
		return s, true
	}
	s, ok := scope.Callee(c.p, c.faces, *call)
	if !ok {
		return sig.Sig{}, false
	}
	c.found[key] = s
	return s, true
}

// fits tells whether what a call calls has as many parameters as the call has kids, and bases alone.
func (c callees) fits(call *ast.Expr) bool {
	s, ok := c.of(call)
	return ok && len(s.Params) == len(call.Kids) && !isNone(s.Base) &&
		!slices.ContainsFunc(s.Params, func(x sig.Slot) bool { return isNone(x.Base) })
}

// param is the base of a parameter of what a call calls that fits.
func (c callees) param(call *ast.Expr, at int) int {
	s, _ := c.of(call)
	return s.Params[at].Base
}

// result is the base of what a call that fits is worth.
func (c callees) result(call *ast.Expr) int {
	s, _ := c.of(call)
	return s.Base
}
