package ast

import (
	"slices"

	"touchstone/api"
	"touchstone/lex"
	"touchstone/parse"
	"touchstone/tree"
	"touchstone/zed"
)

// signs are those of two kids, from Add to Imp.
var signs = [...]string{"+", "-", "*", "/", "%", "=", "<>", "<", "<=", ">", ">=", "&&", "||", "=>"}

// Of is the program of a tree.
func Of(t tree.Tree) (Program, api.Errno) {
	r, e := newReader(t, parse.Parse)
	if e != api.OK {
		return Program{}, e
	}
	return r.program(), api.OK
}

// FormulaOf is the expression of a tree.
func FormulaOf(t tree.Tree) (Expr, api.Errno) {
	r, e := newReader(t, parse.Formula)
	if e != api.OK {
		return Expr{}, e
	}
	return r.expr(r.kids(r.Root())[0]), api.OK
}

// reader is a tree that layer 7 made: each node has the kids that the grammar says.
type reader struct{ tree.Tree }

// newReader reads not t, but the tree that is made anew of its text, so that nothing of t is kept.
func newReader(t tree.Tree, read func(string, int) (tree.Tree, lex.Fault)) (reader, api.Errno) {
	own, fault := read(t.Show(), api.MaxDepth)
	if fault.E != api.OK || !sameTree(t, own) {
		return reader{}, api.ErrForm
	}
	return reader{own}, api.OK
}

func sameTree(a, b tree.Tree) bool {
	return slices.Equal(a.Tokens, b.Tokens) && slices.EqualFunc(a.Nodes, b.Nodes, sameNode)
}

func sameNode(a, b tree.Node) bool {
	return a.Kind == b.Kind && a.Token == b.Token && slices.Equal(a.Kids, b.Kids)
}

func (r reader) kind(n int) int { return r.Nodes[n].Kind }

func (r reader) kids(n int) []int { return r.Nodes[n].Kids }

// token is a leaf's.
func (r reader) token(leaf int) lex.Token { return r.Tokens[r.Nodes[leaf].Token] }

// ownTokens are those of the leaves that are kids of n.
func (r reader) ownTokens(n int) []lex.Token {
	var out []lex.Token
	for _, kid := range r.kids(n) {
		if r.kind(kid) == tree.Leaf {
			out = append(out, r.token(kid))
		}
	}
	return out
}

func (r reader) program() Program {
	var p Program
	for _, kid := range r.kids(r.Root()) {
		switch r.kind(kid) {
		case tree.Import:
			name := r.ownTokens(kid)[1]
			p.Imports = append(p.Imports, Import{Name: name.Text, At: name.At})
		case tree.Def:
			p.Defs = append(p.Defs, r.def(kid))
		}
	}
	return p
}

func (r reader) def(n int) Def {
	kids, own := r.kids(n), r.param(n)
	d := Def{Name: own.Name, Base: own.Base, Clause: own.Clause, At: own.At, Bare: own.Bare}
	d.Pub = r.token(kids[0]).Text == "pub"
	for _, kid := range kids {
		if r.kind(kid) == tree.Param {
			d.Params = append(d.Params, r.param(kid))
		}
	}
	d.Body = r.expr(kids[len(kids)-2])
	return d
}

// param reads what a parameter has. A definition has the same, of its result: one word of its own, a base, and behind it a clause or none.
func (r reader) param(n int) Param {
	var p Param
	for _, kid := range r.kids(n) {
		switch r.kind(kid) {
		case tree.Leaf:
			if token := r.token(kid); token.Kind == lex.Word {
				p.Name, p.At = token.Text, token.At
			}
		case tree.Base:
			token := r.ownTokens(kid)[0]
			p.Base, p.Bare = base(token.Text), token.At+len(token.Text)
		case tree.Clause:
			p.Clause, p.Bare = []Expr{r.expr(r.kids(kid)[1])}, -1
		}
	}
	return p
}

func base(key string) int {
	if key == "int" {
		return api.Int
	}
	return api.Bool
}

// expr reads an expression. No text is long enough for one that is deeper than calls may be.
func (r reader) expr(n int) Expr {
	for r.kind(n) == tree.Group {
		n = r.kids(n)[1]
	}
	e := withoutKids(r.kind(n), r.ownTokens(n))
	for _, kid := range r.kids(n) {
		if r.kind(kid) != tree.Leaf {
			e.Kids = append(e.Kids, r.expr(kid))
		}
	}
	return e
}

// withoutKids is an expression but for its kids, by its own tokens. The first of them is where it stands: of one of two kids from Add to Imp it is the sign, as what stands ahead of that is a kid.
func withoutKids(kind int, own []lex.Token) Expr {
	first := own[0]
	e := Expr{At: first.At}
	switch kind {
	case tree.Let:
		e.Op, e.Name = Let, own[1].Text
	case tree.If:
		e.Op = If
	case tree.Assert:
		e.Op = Assert
	case tree.Binary:
		e.Op = binary(first.Text)
	case tree.Unary:
		e.Op = unary(first.Text)
	case tree.Call:
		e.Op = Call
		e.Module, e.Name = called(own)
	case tree.Name:
		e.Op, e.Name = Var, first.Text
	case tree.Numeral:
		e.Op = Lit
		// No token has digits that layer 1 refuses.
		e.Num, _ = zed.Parse(first.Text)
	case tree.Truth:
		e.Op, e.Yes = Truth, first.Text == "true"
	case tree.Result:
		e.Op = Res
	}
	return e
}

func binary(sign string) int {
	for i, other := range signs {
		if sign == other {
			return Add + i
		}
	}
	return 0
}

func unary(sign string) int {
	if sign == "-" {
		return Neg
	}
	return Not
}

// called is the module, if there is one, and the name that a call's tokens begin with.
func called(own []lex.Token) (string, string) {
	if own[1].Text == "." {
		return own[0].Text, own[2].Text
	}
	return "", own[0].Text
}
