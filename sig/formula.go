package sig

import (
	"slices"
	"strings"

	"touchstone/api"
	"touchstone/ast"
	"touchstone/parse"
)

// part is a part of a text, and its place there.
type part struct {
	text string
	at   int
}

// cut is a part of a part.
func (p part) cut(from, to int) part { return part{text: p.text[from:to], at: p.at + from} }

// formula reads a formula in which nothing is nested by more than depth: by layer 7, or, if it is too long for that, by its parts, as they stand in texts of layer 9.
func (p part) formula(depth int) (ast.Expr, bool) {
	if depth < 1 {
		return ast.Expr{}, false
	}
	if len(p.text) <= api.MaxText {
		return p.whole(depth)
	}
	isNot := strings.HasPrefix(p.text, "not ")
	links := loosest(p.text, isNot)
	switch {
	case len(links) > 0:
		return p.chain(links, depth)
	case isNot:
		return p.unary(ast.Not, len("not "), depth)
	case strings.HasPrefix(p.text, "-"):
		return p.unary(ast.Neg, len("-"), depth)
	case strings.HasPrefix(p.text, "(") && strings.HasSuffix(p.text, ")"):
		return p.cut(1, len(p.text)-1).formula(depth - 1)
	}
	return ast.Expr{}, false
}

// whole reads a formula by layer 7.
func (p part) whole(depth int) (ast.Expr, bool) {
	t, f := parse.Formula(p.text, depth)
	if f.E != api.OK {
		return ast.Expr{}, false
	}
	e, err := ast.FormulaOf(t)
	return own([]ast.Expr{e}, p.at)[0], err == api.OK
}

// unary reads a formula of one kid, which stands behind so many bytes.
func (p part) unary(op, size, depth int) (ast.Expr, bool) {
	kid, ok := p.cut(size, len(p.text)).formula(depth - 1)
	return ast.Expr{Op: op, Kids: []ast.Expr{kid}, At: p.at}, ok
}

// chain reads what stands between signs of one level, and makes one formula of all: `=>` takes what stands ahead of it and all that stands behind, another sign all that stands ahead of it and what stands behind.
func (p part) chain(links []link, depth int) (ast.Expr, bool) {
	kids, ok := p.between(links, depth)
	if !ok {
		return ast.Expr{}, false
	}
	if links[0].op == ast.Imp {
		e := kids[len(links)]
		for i, l := range slices.Backward(links) {
			e = l.of(p, kids[i], e)
		}
		return e, true
	}
	e := kids[0]
	for i, l := range links {
		e = l.of(p, e, kids[i+1])
	}
	return e, true
}

// of is the formula with a link of a part for its sign.
func (l link) of(p part, first, second ast.Expr) ast.Expr {
	return ast.Expr{Op: l.op, Kids: []ast.Expr{first, second}, At: p.at + l.at}
}

// between reads what stands ahead of each sign, and behind the last one. Behind each `=>` it is nested by one more.
func (p part) between(links []link, depth int) ([]ast.Expr, bool) {
	var kids []ast.Expr
	from := 0
	for _, l := range links {
		e, ok := p.cut(from, l.at-1).formula(depth)
		if !ok {
			return nil, false
		}
		kids = append(kids, e)
		from = l.at + len(l.text) + 1
		if l.op == ast.Imp {
			depth--
		}
	}
	last, ok := p.cut(from, len(p.text)).formula(depth)
	return append(kids, last), ok
}
