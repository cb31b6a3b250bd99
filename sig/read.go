package sig

import (
	"strings"

	"touchstone/api"
	"touchstone/ast"
	"touchstone/parse"
)

// Read is the signature of a text.
func Read(text string) (Sig, api.Errno) {
	s, ok := read(text)
	if !ok {
		return Sig{}, api.ErrForm
	}
	// Of other texts something is read too, such as those with more blanks: it has not their text, but its own.
	if shown, e := s.Show(); e != api.OK || shown != text {
		return Sig{}, api.ErrForm
	}
	return s, api.OK
}

// read reads each text that some right signature has, of any length. Layer 7 reads no text that is longer than MaxText: it is given the signature with short clauses, and the formulas apart.
func read(text string) (Sig, bool) {
	short, formulas := shorten(text)
	d, ok := definition("fun " + short + "=0;")
	if !ok {
		return Sig{}, false
	}
	s := Of(d)
	for _, clause := range s.clauses() {
		if len(clause) == 0 {
			continue
		}
		if clause[0], ok = formulas[0].formula(api.MaxDepth); !ok {
			return Sig{}, false
		}
		formulas = formulas[1:]
	}
	return s, true
}

// shorten is a signature's text with a short formula in each clause, and the formulas that stood there.
func shorten(text string) (string, []part) {
	var short strings.Builder
	var formulas []part
	rest := text
	for {
		ahead, clause, opened := strings.Cut(rest, "{")
		inside, behind, closed := strings.Cut(clause, "}")
		if !opened || !closed {
			short.WriteString(rest)
			return short.String(), formulas
		}
		short.WriteString(ahead + "{true}")
		formulas = append(formulas, part{text: inside, at: len(text) - len(clause)})
		rest = behind
	}
}

// definition is that of a text which is just one.
func definition(text string) (ast.Def, bool) {
	t, f := parse.Parse(text, api.MaxDepth)
	if f.E != api.OK {
		return ast.Def{}, false
	}
	p, e := ast.Of(t)
	if e != api.OK || len(p.Defs) != 1 {
		return ast.Def{}, false
	}
	return p.Defs[0], true
}
