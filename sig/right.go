package sig

import (
	"strings"

	"touchstone/api"
	"touchstone/ast"
	"touchstone/bag"
	"touchstone/lex"
	"touchstone/show"
)

// Right tells whether a signature is right.
func (s Sig) Right() bool {
	if !lex.Plain(s.Name) || len(s.Params) > api.MaxParams {
		return false
	}
	var names bag.Set[string]
	for _, x := range s.Params {
		if !lex.Plain(x.Name) || names.Has(x.Name) {
			return false
		}
		names = names.With(x.Name)
		if !rightTyped(x.Base, x.Clause, names) || hasResult(x.Clause) {
			return false
		}
	}
	return rightTyped(s.Base, s.Clause, names)
}

// rightTyped tells whether it is a base, and a clause of these names alone or none.
func rightTyped(base int, clause []ast.Expr, names bag.Set[string]) bool {
	// Layer 9 is asked first, as it alone ends at all expressions.
	if _, e := show.Typed(base, clause); e != api.OK {
		return false
	}
	return len(clause) == 0 || bag.Of(clause[0].Free()...).Within(names)
}

// hasResult tells whether a Res is in a clause that is a formula: if there is none it is a body too.
func hasResult(clause []ast.Expr) bool {
	if len(clause) == 0 {
		return false
	}
	_, e := show.Body(clause[0])
	return e != api.OK
}

// Right tells whether a face is right.
func (f Face) Right() bool {
	if !lex.Plain(f.Module) || len(f.Sigs) > api.MaxDefs {
		return false
	}
	for i, s := range f.Sigs {
		if !s.Right() || i > 0 && f.Sigs[i-1].Name >= s.Name {
			return false
		}
	}
	return true
}

// Show is a signature's text.
func (s Sig) Show() (string, api.Errno) {
	if !s.Right() {
		return "", api.ErrForm
	}
	var params []string
	for _, x := range s.Params {
		params = append(params, x.Name+": "+typed(x.Base, x.Clause))
	}
	return s.Name + "(" + strings.Join(params, ", ") + "): " + typed(s.Base, s.Clause), api.OK
}

// typed is the text of what rightTyped holds for.
func typed(base int, clause []ast.Expr) string {
	text, _ := show.Typed(base, clause)
	return text
}
