package scope

import (
	"touchstone/api"
	"touchstone/ast"
	"touchstone/bag"
	"touchstone/sig"
)

// functions tell by modules, and by names, of how many parameters is what may be called. The program's own functions are those of the module without a name.
type functions map[string]map[string]int

// functionsOf are a right program's own ones and those of what it imports. They are counted once, not asked of Callee for each call, as it copies whole clauses.
func functionsOf(p ast.Program, faces []sig.Face) functions {
	own := map[string]int{}
	for _, d := range p.Defs {
		own[d.Name] = len(d.Params)
	}
	known := functions{"": own}
	imported := bag.Of(Order(p)...)
	for _, f := range faces {
		if imported.Has(f.Module) {
			known[f.Module] = counts(f.Sigs)
		}
	}
	return known
}

func counts(l []sig.Sig) map[string]int {
	out := map[string]int{}
	for _, s := range l {
		out[s.Name] = len(s.Params)
	}
	return out
}

// wrong is the error of a call.
func (l functions) wrong(call *ast.Expr) api.Errno {
	names, ok := l[call.Module]
	if !ok {
		return api.ErrModule
	}
	params, ok := names[call.Name]
	if !ok {
		return api.ErrName
	}
	if params != len(call.Kids) {
		return api.ErrArity
	}
	return api.OK
}
