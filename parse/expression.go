package parse

import (
	"touchstone/api"
	"touchstone/lex"
	"touchstone/tree"
)

func (p *parser) expression() int {
	switch {
	case p.at("let"):
		return p.Node(tree.Let, p.take(), p.oneOf(lex.Word), p.one("="), p.part(), p.one("in"), p.part())
	case p.at("if"):
		return p.Node(tree.If, p.take(), p.part(), p.one("then"), p.part(), p.one("else"), p.part())
	case p.at("assert"):
		return p.Node(tree.Assert, p.take(), p.part(), p.one("in"), p.part())
	}
	return p.formula()
}

// part reads an expression that is a part of another one.
func (p *parser) part() int { return p.nested((*parser).expression) }

func (p *parser) formula() int {
	first := p.disjunction()
	if !p.at("=>") {
		return first
	}
	return p.Node(tree.Binary, first, p.take(), p.nested((*parser).formula))
}

func (p *parser) disjunction() int { return p.chain((*parser).conjunction, "||") }

func (p *parser) conjunction() int { return p.chain((*parser).negation, "&&") }

func (p *parser) negation() int {
	if p.at("not") {
		return p.Node(tree.Unary, p.take(), p.nested((*parser).negation))
	}
	return p.comparison()
}

func (p *parser) comparison() int {
	first := p.sum()
	if !p.at("=", "<>", "<", "<=", ">", ">=") {
		return first
	}
	return p.Node(tree.Binary, first, p.take(), p.sum())
}

func (p *parser) sum() int { return p.chain((*parser).product, "+", "-") }

func (p *parser) product() int { return p.chain((*parser).factor, "*", "/", "%") }

// chain reads links with signs between them: each sign takes all that stands ahead of it.
func (p *parser) chain(link func(*parser) int, signs ...string) int {
	ahead := link(p)
	for p.at(signs...) {
		ahead = p.Node(tree.Binary, ahead, p.take(), link(p))
	}
	return ahead
}

func (p *parser) factor() int {
	if p.at("-") {
		return p.Node(tree.Unary, p.take(), p.nested((*parser).factor))
	}
	return p.atom()
}

func (p *parser) atom() int {
	switch {
	case p.atKind(lex.Number):
		return p.Node(tree.Numeral, p.take())
	case p.at("true", "false"):
		return p.Node(tree.Truth, p.take())
	case p.at("res") && p.inClause:
		return p.Node(tree.Result, p.take())
	case p.at("("):
		return p.group()
	case p.atKind(lex.Word):
		return p.named()
	}
	return p.fail(api.ErrSyntax)
}

func (p *parser) group() int {
	inside := (*parser).expression
	if p.inClause {
		inside = (*parser).formula
	}
	return p.Node(tree.Group, p.take(), p.nested(inside), p.one(")"))
}

// named reads what begins with a word: a name, or a call.
func (p *parser) named() int {
	word := p.take()
	if p.inClause || !p.at(".", "(") {
		return p.Node(tree.Name, word)
	}
	kids := []int{word}
	if p.at(".") {
		kids = append(kids, p.take(), p.oneOf(lex.Word))
	}
	kids = append(kids, p.one("("))
	kids = append(kids, p.list(func() int { return p.part() })...)
	return p.Node(tree.Call, append(kids, p.one(")"))...)
}
