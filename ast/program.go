package ast

import (
	"strconv"
	"strings"
)

// Dump is a program's dump.
func (p Program) Dump() string {
	var out strings.Builder
	for _, i := range p.Imports {
		out.WriteString("import " + i.Name + "\n")
	}
	for _, d := range p.Defs {
		d.dump(&out)
	}
	return out.String()
}

func (d Def) dump(out *strings.Builder) {
	if d.Pub {
		out.WriteString("pub ")
	}
	out.WriteString(d.Name)
	for _, x := range d.Params {
		out.WriteString(" " + x.Name)
		dumpTyped(out, x.Base, x.Clause)
	}
	out.WriteString(" ")
	dumpTyped(out, d.Base, d.Clause)
	out.WriteString(" = " + d.Body.Dump() + "\n")
}

func dumpTyped(out *strings.Builder, base int, clause []Expr) {
	out.WriteString(":" + strconv.Itoa(base))
	for _, e := range clause {
		out.WriteString(e.Dump())
	}
}

// Same tells whether two programs are the same.
func Same(a Program, b Program) bool { return a.Dump() == b.Dump() }

// Erase is a program without clauses.
func (p Program) Erase() Program {
	var out Program
	for _, i := range p.Imports {
		out.Imports = append(out.Imports, Import{Name: strings.Clone(i.Name), At: i.At})
	}
	for _, d := range p.Defs {
		out.Defs = append(out.Defs, d.erase())
	}
	return out
}

func (d Def) erase() Def {
	var params []Param
	for _, x := range d.Params {
		x.Name, x.Clause = strings.Clone(x.Name), nil
		params = append(params, x)
	}
	d.Name, d.Params, d.Clause, d.Body = strings.Clone(d.Name), params, nil, d.Body.own()
	return d
}

// Bare are the places where clauses may be put.
func (p Program) Bare() []int {
	var out []int
	note := func(bare int) {
		if bare != -1 {
			out = append(out, bare)
		}
	}
	for _, d := range p.Defs {
		for _, x := range d.Params {
			note(x.Bare)
		}
		note(d.Bare)
	}
	return out
}
