package show_test

import (
	"math/rand/v2"
	"regexp"
	"slices"
	"strconv"
	"strings"
	"testing"

	"touchstone/api"
	"touchstone/ast"
	"touchstone/lex"
	"touchstone/parse"
	"touchstone/show"
	"touchstone/zed"
)

// drawer draws expressions and programs by chance.
type drawer struct {
	r      *rand.Rand
	inBody bool
}

func newDrawer(seed uint64) *drawer { return &drawer{r: rand.New(rand.NewPCG(seed, 9))} }

func (d *drawer) one(l ...string) string { return l[d.r.IntN(len(l))] }

func (d *drawer) word() string {
	return d.one("x", "y", "Int", "f_9", "lets", "m", strings.Repeat("w", api.MaxName))
}

// countOf is how many kids an Op has; -1 stands for any number up to the limit.
var countOf = []int{0, 0, 0, 0, 1, 1, 2, 2, 2, 2, 2, 2, 2, 2, 2, 2, 2, 2, 2, 2, 3, 2, 2, -1}

func (d *drawer) expr(room int) ast.Expr {
	op := 1 + d.r.IntN(24)
	for room == 0 && countOf[op-1] > 0 || d.inBody && op == ast.Res || !d.inBody && op > 20 {
		op = 1 + d.r.IntN(24)
	}
	e := ast.Expr{Op: op, At: d.r.IntN(99) - 9}
	switch op {
	case ast.Lit:
		e.Num, _ = zed.Parse(d.one("0", "7", "10", strings.Repeat("9", api.MaxDigits)))
	case ast.Truth:
		e.Yes = d.r.IntN(2) == 0
	case ast.Var, ast.Let, ast.Call:
		e.Name = d.word()
	}
	n := countOf[op-1]
	if op == ast.Call {
		e.Module = d.one("", d.word())
		n = d.r.IntN(api.MaxParams + 1)
		if room == 0 {
			n = 0
		}
	}
	for range n {
		e.Kids = append(e.Kids, d.expr(room-1))
	}
	return e
}

func (d *drawer) clause() []ast.Expr {
	if d.r.IntN(2) == 0 {
		return nil
	}
	d.inBody = false
	return []ast.Expr{d.expr(d.r.IntN(4))}
}

func (d *drawer) program() ast.Program {
	var p ast.Program
	for range d.r.IntN(3) {
		p.Imports = append(p.Imports, ast.Import{Name: d.word(), At: d.r.IntN(9)})
	}
	for range d.r.IntN(4) {
		x := ast.Def{Pub: d.r.IntN(2) == 0, Name: d.word(), Base: 1 + d.r.IntN(2), Clause: d.clause(), Bare: d.r.IntN(9) - 1}
		for range d.r.IntN(4) {
			x.Params = append(x.Params, ast.Param{Name: d.word(), Base: 1 + d.r.IntN(2), Clause: d.clause()})
		}
		d.inBody = true
		x.Body = d.expr(d.r.IntN(5))
		p.Defs = append(p.Defs, x)
	}
	return p
}

// textOf is a plainer way to an expression's text, where it may have a level.
func textOf(e ast.Expr, may int) string {
	if levels[e.Op-1] < may {
		return "(" + textOf(e, 0) + ")"
	}
	var kids []string
	for i, kid := range e.Kids {
		may := 0
		if e.Op <= ast.Imp {
			may = least[e.Op-1][i]
		}
		kids = append(kids, textOf(kid, may))
	}
	switch e.Op {
	case ast.Lit:
		return e.Num.String()
	case ast.Truth:
		return strconv.FormatBool(e.Yes)
	case ast.Var:
		return e.Name
	case ast.Res:
		return "res"
	case ast.Neg:
		return "-" + kids[0]
	case ast.Not:
		return "not " + kids[0]
	case ast.If:
		return "if " + kids[0] + " then " + kids[1] + " else " + kids[2]
	case ast.Let:
		return "let " + e.Name + " = " + kids[0] + " in " + kids[1]
	case ast.Assert:
		return "assert " + kids[0] + " in " + kids[1]
	case ast.Call:
		module := e.Module
		if module != "" {
			module += "."
		}
		return module + e.Name + "(" + strings.Join(kids, ", ") + ")"
	}
	return kids[0] + " " + signsOf[e.Op-ast.Add] + " " + kids[1]
}

func typedText(base int, clause []ast.Expr) string {
	out := []string{"int", "bool"}[base-1]
	for _, e := range clause {
		out += " {" + textOf(e, 0) + "}"
	}
	return out
}

func programText(p ast.Program) string {
	out := ""
	for _, i := range p.Imports {
		out += "import " + i.Name + ";\n"
	}
	for _, d := range p.Defs {
		var params []string
		for _, x := range d.Params {
			params = append(params, x.Name+": "+typedText(x.Base, x.Clause))
		}
		if d.Pub {
			out += "pub "
		}
		out += "fun " + d.Name + "(" + strings.Join(params, ", ") + "): " + typedText(d.Base, d.Clause) + " = " + textOf(d.Body, 0) + ";\n"
	}
	return out
}

func TestManyFormulas(t *testing.T) { // P9.1
	d := newDrawer(1)
	for range 20000 {
		e := d.expr(d.r.IntN(7))
		got, err := show.Formula(e)
		if err != api.OK || got != textOf(e, 0) {
			t.Fatalf("%s: got %q and %d, want %q", e.Dump(), got, err, textOf(e, 0))
		}
		base := 1 + d.r.IntN(2)
		if got, err := show.Typed(base, []ast.Expr{e}); err != api.OK || got != typedText(base, []ast.Expr{e}) {
			t.Fatalf("%s: got %q and %d", e.Dump(), got, err)
		}
		if len(got) > api.MaxText {
			continue
		}
		// What is written is read again as the same.
		x, f := parse.Formula(got, api.MaxDepth)
		back, _ := ast.FormulaOf(x)
		if f.E != api.OK || back.Dump() != e.Dump() {
			t.Fatalf("%q: got %s, want %s", got, back.Dump(), e.Dump())
		}
	}
}

func TestManyPrograms(t *testing.T) { // P9.1, P9.2
	d, read := newDrawer(2), 0
	for range 4000 {
		p := d.program()
		got, err := show.Program(p)
		if err != api.OK || got != programText(p) {
			t.Fatalf("%s: got %q and %d, want %q", p.Dump(), got, err, programText(p))
		}
		for _, x := range p.Defs {
			if got, err := show.Body(x.Body); err != api.OK || got != textOf(x.Body, 0) {
				t.Fatalf("%s: got %q and %d", x.Body.Dump(), got, err)
			}
		}
		if len(got) > api.MaxText {
			continue
		}
		read++
		back := programOf(t, got)
		if !ast.Same(back, p) {
			t.Fatalf("%q: got %s, want %s", got, back.Dump(), p.Dump())
		}
		if again, err := show.Program(back); err != api.OK || again != got {
			t.Fatalf("%q: written again as %q", got, again)
		}
	}
	if read < 3000 {
		t.Error(read)
	}
}

var wordForm = regexp.MustCompile(`^[A-Za-z][A-Za-z0-9_]*$`)

func isPlain(s string) bool {
	return wordForm.MatchString(s) && len(s) <= api.MaxName && !slices.Contains(lex.Keys(), s)
}

// isRightExpr is a plainer way to what right expressions, formulas and bodies are.
func isRightExpr(e ast.Expr, inBody bool) bool {
	if e.Op < 1 || e.Op > 24 || inBody && e.Op == 4 || !inBody && e.Op > 20 {
		return false
	}
	if n := countOf[e.Op-1]; n >= 0 && len(e.Kids) != n || len(e.Kids) > 8 {
		return false
	}
	named, digits := e.Op == 3 || e.Op == 22 || e.Op == 24, e.Num.String()
	if named && !isPlain(e.Name) || !named && e.Name != "" || e.Module != "" && (e.Op != 24 || !isPlain(e.Module)) {
		return false
	}
	if e.Op != 1 && digits != "0" || digits[0] == '-' || len(digits) > 60 || e.Yes && e.Op != 2 {
		return false
	}
	for _, kid := range e.Kids {
		if !isRightExpr(kid, inBody) {
			return false
		}
	}
	return true
}

func isRightTyped(base int, clause []ast.Expr) bool {
	return (base == 1 || base == 2) && (len(clause) == 0 || len(clause) == 1 && isRightExpr(clause[0], false))
}

func isRightProgram(p ast.Program) bool {
	right := len(p.Imports) <= 16 && len(p.Defs) <= 64
	for _, i := range p.Imports {
		right = right && isPlain(i.Name)
	}
	for _, d := range p.Defs {
		right = right && isPlain(d.Name) && len(d.Params) <= 8 && isRightTyped(d.Base, d.Clause) && isRightExpr(d.Body, true)
		for _, x := range d.Params {
			right = right && isPlain(x.Name) && isRightTyped(x.Base, x.Clause)
		}
	}
	return right
}

// inside are all expressions in one, itself too.
func inside(e *ast.Expr) []*ast.Expr {
	out := []*ast.Expr{e}
	for i := range e.Kids {
		out = append(out, inside(&e.Kids[i])...)
	}
	return out
}

func (d *drawer) oddName() string {
	return d.one("", "x", "let", "res", "x y", " x", "x.y", "_", "9", "9x", "x;", "\xff", "true", strings.Repeat("w", api.MaxName), strings.Repeat("w", api.MaxName+1))
}

// spoil changes one thing of an expression; it may still be right.
func (d *drawer) spoil(e *ast.Expr) {
	all := inside(e)
	at := all[d.r.IntN(len(all))]
	switch d.r.IntN(8) {
	case 0:
		at.Op = d.r.IntN(27) - 1
	case 1:
		at.Name = d.oddName()
	case 2:
		at.Module = d.oddName()
	case 3:
		at.Num = zed.From(d.r.IntN(5) - 2)
	case 4:
		n, _ := zed.Pow(zed.From(10), 58+d.r.IntN(4))
		at.Num = n.Sub(zed.From(d.r.IntN(2)))
	case 5:
		at.Yes = !at.Yes
	case 6:
		at.Kids = append(slices.Clone(at.Kids), d.expr(0))
	case 7:
		at.Kids = at.Kids[:d.r.IntN(len(at.Kids)+1)]
	}
}

func TestManySpoiltExpressions(t *testing.T) { // P9.1
	d, told := newDrawer(3), map[bool]int{}
	for range 20000 {
		d.inBody = d.r.IntN(2) == 0
		e := d.expr(d.r.IntN(4))
		for range 1 + d.r.IntN(2) {
			d.spoil(&e)
		}
		for _, inBody := range []bool{true, false} {
			want, call := "", show.Formula
			if inBody {
				call = show.Body
			}
			right := isRightExpr(e, inBody)
			told[right]++
			if right {
				want = textOf(e, 0)
			}
			got, err := call(e)
			wants(t, e.Dump(), want, got, err)
		}
		if t.Failed() {
			t.FailNow()
		}
	}
	if told[true] < 3000 || told[false] < 3000 {
		t.Error(told)
	}
}

// spoilProgram changes one thing of a program; it may still be right.
func (d *drawer) spoilProgram(p *ast.Program) {
	if len(p.Defs) == 0 || d.r.IntN(8) == 0 {
		p.Imports = append(p.Imports, ast.Import{Name: d.oddName()})
		return
	}
	x := &p.Defs[d.r.IntN(len(p.Defs))]
	odd := [][]ast.Expr{nil, {}, {name("x")}, {name("x"), name("x")}, {{Op: ast.Res}}, {call("", "g")}, {{}}}[d.r.IntN(7)]
	switch d.r.IntN(8) {
	case 0:
		x.Name = d.oddName()
	case 1:
		x.Base = d.r.IntN(5) - 1
	case 2:
		x.Clause = odd
	case 3:
		x.Params = append(x.Params, ast.Param{Name: d.oddName(), Base: 1})
	case 4:
		x.Params = append(x.Params, ast.Param{Name: "x", Base: d.r.IntN(5) - 1})
	case 5:
		x.Params = append(x.Params, ast.Param{Name: "x", Base: 2, Clause: odd})
	case 6:
		d.inBody = true
		d.spoil(&x.Body)
	case 7:
		x.Body = ast.Expr{Op: ast.Neg, Kids: []ast.Expr{x.Body}}
	}
}

func TestManySpoiltPrograms(t *testing.T) { // P9.2
	d, told := newDrawer(4), map[bool]int{}
	for range 8000 {
		p := d.program()
		d.spoilProgram(&p)
		right, want := isRightProgram(p), ""
		told[right]++
		if right {
			want = programText(p)
		}
		got, err := show.Program(p)
		wants(t, p.Dump(), want, got, err)
		if t.Failed() {
			t.FailNow()
		}
	}
	if told[true] < 1000 || told[false] < 1000 {
		t.Error(told)
	}
}
