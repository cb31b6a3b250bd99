package show

import (
	"slices"
	"strconv"
	"strings"

	"touchstone/api"
	"touchstone/ast"
)

// The levels of expressions. What stands by itself, or as a part between keys or in a call, may be of any.
const (
	part = iota
	imp
	or
	and
	not
	comparison
	sum
	product
	neg
	atom
)

// signs are those of two kids, from Add to Imp.
var signs = [...]string{"+", "-", "*", "/", "%", "=", "<>", "<", "<=", ">", ">=", "&&", "||", "=>"}

// level is that of expressions of an Op.
func level(op int) int {
	switch op {
	case ast.If, ast.Let, ast.Assert:
		return part
	case ast.Imp:
		return imp
	case ast.Or:
		return or
	case ast.And:
		return and
	case ast.Not:
		return not
	case ast.Eq, ast.Ne, ast.Lt, ast.Le, ast.Gt, ast.Ge:
		return comparison
	case ast.Add, ast.Sub:
		return sum
	case ast.Mul, ast.Div, ast.Mod:
		return product
	case ast.Neg:
		return neg
	}
	return atom
}

// sides are the levels that the two kids of one with a sign may have without parentheses.
func sides(level int) (first, second int) {
	switch level {
	case imp:
		return level + 1, level
	case comparison:
		return level + 1, level + 1
	}
	return level, level + 1
}

// piece is a part of a text: bytes, or an expression and the level that it may have without parentheses.
type piece struct {
	bytes string
	of    *ast.Expr
	least int
}

// writer has the pieces of a text, one behind the other.
type writer struct{ pieces []piece }

func (w *writer) put(bytes string) { w.pieces = append(w.pieces, piece{bytes: bytes}) }

func (w *writer) expr(e *ast.Expr, least int) {
	w.pieces = append(w.pieces, piece{of: e, least: least})
}

// list writes things of any kind, one behind the other.
func list[T any](w *writer, things []T, between string, write func(thing *T)) {
	for i := range things {
		if i > 0 {
			w.put(between)
		}
		write(&things[i])
	}
}

// text is the whole text; no piece is left. Each expression is turned into its own pieces when its turn comes, not by calls in calls, as it may be deeper than these may.
func (w *writer) text() string {
	var out strings.Builder
	// From here on the next piece is the last one.
	slices.Reverse(w.pieces)
	for len(w.pieces) > 0 {
		end := len(w.pieces) - 1
		next := w.pieces[end]
		w.pieces = w.pieces[:end]
		if next.of == nil {
			out.WriteString(next.bytes)
			continue
		}
		w.open(next.of, next.least)
		slices.Reverse(w.pieces[end:])
	}
	return out.String()
}

// open writes an expression's pieces, its kids whole.
func (w *writer) open(e *ast.Expr, least int) {
	if level(e.Op) >= least {
		w.bare(e)
		return
	}
	w.put("(")
	w.bare(e)
	w.put(")")
}

func (w *writer) bare(e *ast.Expr) {
	switch e.Op {
	case ast.Lit:
		w.put(e.Num.String())
	case ast.Truth:
		w.put(strconv.FormatBool(e.Yes))
	case ast.Var:
		w.put(e.Name)
	case ast.Res:
		w.put("res")
	case ast.Neg:
		w.put("-")
		w.expr(&e.Kids[0], atom)
	case ast.Not:
		w.put("not ")
		w.expr(&e.Kids[0], not)
	case ast.If:
		w.parts(e, "if ", " then ", " else ")
	case ast.Let:
		w.parts(e, "let "+e.Name+" = ", " in ")
	case ast.Assert:
		w.parts(e, "assert ", " in ")
	case ast.Call:
		w.call(e)
	default:
		w.signed(e)
	}
}

// parts writes an expression's kids, with what stands ahead of each.
func (w *writer) parts(e *ast.Expr, ahead ...string) {
	for i, bytes := range ahead {
		w.put(bytes)
		w.expr(&e.Kids[i], part)
	}
}

func (w *writer) call(e *ast.Expr) {
	if e.Module != "" {
		w.put(e.Module + ".")
	}
	w.put(e.Name + "(")
	list(w, e.Kids, ", ", func(kid *ast.Expr) { w.expr(kid, part) })
	w.put(")")
}

func (w *writer) signed(e *ast.Expr) {
	first, second := sides(level(e.Op))
	w.expr(&e.Kids[0], first)
	w.put(" " + signs[e.Op-ast.Add] + " ")
	w.expr(&e.Kids[1], second)
}

func (w *writer) typed(base int, clause []ast.Expr) {
	w.put(baseKey(base))
	list(w, clause, "", func(e *ast.Expr) {
		w.put(" {")
		w.expr(e, part)
		w.put("}")
	})
}

func baseKey(base int) string {
	if base == api.Int {
		return "int"
	}
	return "bool"
}

func (w *writer) program(p ast.Program) {
	list(w, p.Imports, "", func(i *ast.Import) { w.put("import " + i.Name + ";\n") })
	list(w, p.Defs, "", w.def)
}

func (w *writer) def(d *ast.Def) {
	if d.Pub {
		w.put("pub ")
	}
	w.put("fun " + d.Name + "(")
	list(w, d.Params, ", ", func(x *ast.Param) {
		w.put(x.Name + ": ")
		w.typed(x.Base, x.Clause)
	})
	w.put("): ")
	w.typed(d.Base, d.Clause)
	w.put(" = ")
	w.expr(&d.Body, part)
	w.put(";\n")
}
