package parse

import (
	"touchstone/api"
	"touchstone/lex"
	"touchstone/tree"
)

func (p *parser) program() int {
	kids := p.row(api.MaxImports, (*parser).imported, "import")
	kids = append(kids, p.row(api.MaxDefs, (*parser).definition, "pub", "fun")...)
	return p.Node(tree.Program, append(kids, p.oneOf(lex.End))...)
}

func (p *parser) imported() int {
	return p.Node(tree.Import, p.one("import"), p.oneOf(lex.Word), p.one(";"))
}

func (p *parser) definition() int {
	var kids []int
	if p.at("pub") {
		kids = append(kids, p.take())
	}
	kids = append(kids, p.one("fun"), p.oneOf(lex.Word), p.one("("))
	kids = append(kids, p.parameters()...)
	kids = append(kids, p.one(")"))
	kids = append(kids, p.typed()...)
	kids = append(kids, p.one("="), p.nested((*parser).expression), p.one(";"))
	return p.Node(tree.Def, kids...)
}

func (p *parser) parameters() []int {
	return p.list(func() int {
		kids := append([]int{p.oneOf(lex.Word)}, p.typed()...)
		return p.Node(tree.Param, kids...)
	})
}

// typed reads what stands behind a parameter's name and behind a definition's parameters: a colon, a base, and a clause or none.
func (p *parser) typed() []int {
	kids := []int{p.one(":"), p.Node(tree.Base, p.one("int", "bool"))}
	if p.at("{") {
		kids = append(kids, p.clause())
	}
	return kids
}

func (p *parser) clause() int {
	p.inClause = true
	place := p.Node(tree.Clause, p.one("{"), p.nested((*parser).formula), p.one("}"))
	p.inClause = false
	return place
}

// alone reads a formula that is a whole text.
func (p *parser) alone() int {
	p.inClause = true
	return p.Node(tree.Alone, p.nested((*parser).formula), p.oneOf(lex.End))
}
