package canon

import (
	"slices"
	"strings"

	"touchstone/api"
	"touchstone/ast"
	"touchstone/lex"
	"touchstone/pred"
	"touchstone/term"
	"touchstone/zed"
)

// result is the name of a result.
const result = "res"

// named tells whether all names in a predicate may stand in an expression.
func named(p pred.Pred) bool {
	numbers, flags := p.Names()
	return !slices.ContainsFunc(append(numbers, flags...), func(name string) bool {
		return name != result && !lex.Plain(name)
	})
}

// tooLong is the least number with more digits than an expression's may have.
func tooLong() zed.Int {
	n, _ := zed.Pow(zed.From(10), api.MaxDigits)
	return n
}

// short tells whether all numbers in a predicate, without their signs, are below a limit.
func short(p pred.Pred, limit zed.Int) bool {
	is := func(n zed.Int) bool { return n.Abs().Cmp(limit) < 0 }
	all := is(p.Term.Rest())
	for _, name := range p.Term.Names() {
		all = all && is(p.Term.Factor(name))
	}
	for _, kid := range p.Kids {
		all = all && short(kid, limit)
	}
	return all
}

// truth is a predicate's expression.
func truth(p pred.Pred) ast.Expr {
	switch p.Kind {
	case pred.Le:
		return comparison(ast.Le, p.Term)
	case pred.Eq:
		return comparison(ast.Eq, p.Term)
	case pred.Flag:
		return word(p.Name)
	case pred.Not:
		return ast.Expr{Op: ast.Not, Kids: truths(p.Kids)}
	case pred.And:
		return joined(ast.And, truths(p.Kids), ast.Expr{Op: ast.Truth, Yes: true})
	case pred.Or:
		return joined(ast.Or, truths(p.Kids), ast.Expr{Op: ast.Truth})
	}
	return ast.Expr{Op: ast.Truth, Yes: p.Kind == pred.Yes}
}

func truths(l []pred.Pred) []ast.Expr {
	var out []ast.Expr
	for _, p := range l {
		out = append(out, truth(p))
	}
	return out
}

// joined is an expression of some, the first ones first; of no one it is none.
func joined(op int, l []ast.Expr, none ast.Expr) ast.Expr {
	if len(l) == 0 {
		return none
	}
	out := l[0]
	for _, next := range l[1:] {
		out = ast.Expr{Op: op, Kids: []ast.Expr{out, next}}
	}
	return out
}

// word is a name, or the result.
func word(name string) ast.Expr {
	if name == result {
		return ast.Expr{Op: ast.Res}
	}
	return ast.Expr{Op: ast.Var, Name: strings.Clone(name)}
}

func number(n zed.Int) ast.Expr { return ast.Expr{Op: ast.Lit, Num: n} }

// comparison holds what a term has above 0 against what it has below.
func comparison(op int, t term.Term) ast.Expr {
	var above, below []ast.Expr
	for _, name := range t.Names() {
		if factor := t.Factor(name); factor.Sign() > 0 {
			above = append(above, multiple(factor, name))
		} else {
			below = append(below, multiple(factor.Neg(), name))
		}
	}
	switch rest := t.Rest(); rest.Sign() {
	case 1:
		above = append(above, number(rest))
	case -1:
		below = append(below, number(rest.Neg()))
	}
	return ast.Expr{Op: op, Kids: []ast.Expr{sum(above), sum(below)}}
}

func sum(l []ast.Expr) ast.Expr { return joined(ast.Add, l, number(zed.Int{})) }

func multiple(factor zed.Int, name string) ast.Expr {
	if factor.Cmp(zed.From(1)) == 0 {
		return word(name)
	}
	return ast.Expr{Op: ast.Mul, Kids: []ast.Expr{number(factor), word(name)}}
}
