package ast_test

import (
	"fmt"
	"slices"
	"strings"
	"testing"

	"touchstone/api"
	"touchstone/ast"
	"touchstone/parse"
	"touchstone/zed"
)

// formulaOf is the expression of a formula.
func formulaOf(t *testing.T, s string) ast.Expr {
	t.Helper()
	x, f := parse.Formula(s, api.MaxDepth)
	if f.E != api.OK {
		t.Fatalf("%q: %v", s, f)
	}
	out, e := ast.FormulaOf(x)
	if e != api.OK {
		t.Fatalf("%q: error %d", s, e)
	}
	return out
}

// programOf is the program of a text.
func programOf(t *testing.T, s string) ast.Program {
	t.Helper()
	x, f := parse.Parse(s, api.MaxDepth)
	if f.E != api.OK {
		t.Fatalf("%q: %v", s, f)
	}
	out, e := ast.Of(x)
	if e != api.OK {
		t.Fatalf("%q: error %d", s, e)
	}
	return out
}

// head is what stands ahead of a body.
const head = "fun f():int="

// bodyOf is the expression of a body.
func bodyOf(t *testing.T, s string) ast.Expr {
	t.Helper()
	return programOf(t, head+s+";").Defs[0].Body
}

// whole tells all that an expression has, its place less some bytes.
func whole(e ast.Expr, less int) string {
	out := fmt.Sprintf("<%d %q.%q %v %t @%d", e.Op, e.Module, e.Name, e.Num, e.Yes, e.At-less)
	for _, kid := range e.Kids {
		out += " " + whole(kid, less)
	}
	return out + ">"
}

// wholeClause is as whole, of a clause or none.
func wholeClause(clause []ast.Expr, less int) string {
	out := "{"
	for _, e := range clause {
		out += whole(e, less)
	}
	return out + "}"
}

// wholeProgram tells all that a program has.
func wholeProgram(p ast.Program) string {
	out := fmt.Sprintf("%v\n", p.Imports)
	for _, d := range p.Defs {
		out += fmt.Sprintf("%t %q %d %d %d ", d.Pub, d.Name, d.Base, d.At, d.Bare)
		for _, x := range d.Params {
			out += fmt.Sprintf("(%q %d %d %d %s)", x.Name, x.Base, x.At, x.Bare, wholeClause(x.Clause, 0))
		}
		out += wholeClause(d.Clause, 0) + whole(d.Body, 0) + "\n"
	}
	return out
}

// These make expressions of each kind, as the chapter says what they have.

func lit(at int, digits string) ast.Expr {
	n, _ := zed.Parse(digits)
	return ast.Expr{Op: 1, Num: n, At: at}
}

func truth(at int, yes bool) ast.Expr { return ast.Expr{Op: 2, Yes: yes, At: at} }

func name(at int, s string) ast.Expr { return ast.Expr{Op: 3, Name: s, At: at} }

func op(at, op int, kids ...ast.Expr) ast.Expr { return ast.Expr{Op: op, Kids: kids, At: at} }

func let(at int, s string, is, in ast.Expr) ast.Expr {
	return ast.Expr{Op: 22, Name: s, Kids: []ast.Expr{is, in}, At: at}
}

func call(at int, module, s string, kids ...ast.Expr) ast.Expr {
	return ast.Expr{Op: 24, Module: module, Name: s, Kids: kids, At: at}
}

func TestNumbersOfKinds(t *testing.T) { // P8.1
	kinds := []int{ast.Lit, ast.Truth, ast.Var, ast.Res, ast.Neg, ast.Not, ast.Add, ast.Sub, ast.Mul, ast.Div, ast.Mod, ast.Eq, ast.Ne, ast.Lt, ast.Le, ast.Gt, ast.Ge, ast.And, ast.Or, ast.Imp, ast.If, ast.Let, ast.Assert, ast.Call}
	for i, kind := range kinds {
		if kind != i+1 {
			t.Error(i, kind)
		}
	}
}

// someFormulas are formulas that may stand anywhere, and their expressions.
func someFormulas() map[string]ast.Expr {
	a, b := name(0, "a"), name(2, "b")
	return map[string]ast.Expr{
		"0":                    lit(0, "0"),
		" 17":                  lit(1, "17"),
		"true":                 truth(0, true),
		"false":                truth(0, false),
		"Ab_9":                 name(0, "Ab_9"),
		"-a":                   op(0, 5, name(1, "a")),
		"- --\n-7":             op(0, 5, op(5, 5, lit(6, "7"))),
		"not a":                op(0, 6, name(4, "a")),
		"a+b":                  op(1, 7, a, b),
		"a-b":                  op(1, 8, a, b),
		"a*b":                  op(1, 9, a, b),
		"a/b":                  op(1, 10, a, b),
		"a%b":                  op(1, 11, a, b),
		"a=b":                  op(1, 12, a, b),
		"a<>b":                 op(1, 13, a, name(3, "b")),
		"a<b":                  op(1, 14, a, b),
		"a<=b":                 op(1, 15, a, name(3, "b")),
		"a>b":                  op(1, 16, a, b),
		"a>=b":                 op(1, 17, a, name(3, "b")),
		"a&&b":                 op(1, 18, a, name(3, "b")),
		"a||b":                 op(1, 19, a, name(3, "b")),
		"a=>b":                 op(1, 20, a, name(3, "b")),
		"(a)":                  name(1, "a"),
		" ( ( a ) ) ":          name(5, "a"),
		"(x)+1":                op(3, 7, name(1, "x"), lit(4, "1")),
		"((x)+1)":              op(4, 7, name(2, "x"), lit(5, "1")),
		"-(-a)":                op(0, 5, op(2, 5, name(3, "a"))),
		"(-a)-b":               op(4, 8, op(1, 5, name(2, "a")), name(5, "b")),
		"(not(a))":             op(1, 6, name(5, "a")),
		"a-b-b":                op(3, 8, op(1, 8, a, b), name(4, "b")),
		"a-(b-b)":              op(1, 8, a, op(4, 8, name(3, "b"), name(5, "b"))),
		"a=>b=>a":              op(1, 20, a, op(4, 20, name(3, "b"), name(6, "a"))),
		"(a=>b)=>a":            op(6, 20, op(2, 20, name(1, "a"), name(4, "b")), name(8, "a")),
		"a+b*a":                op(1, 7, a, op(3, 9, b, name(4, "a"))),
		"(a+b)*a":              op(5, 9, op(2, 7, name(1, "a"), name(3, "b")), name(6, "a")),
		"not a=b":              op(0, 6, op(5, 12, name(4, "a"), name(6, "b"))),
		"a --(\n + --b\n ( b)": op(7, 7, a, name(16, "b")),
		"not a&&b||a=>-b<1%a": op(11, 20,
			op(8, 19, op(5, 18, op(0, 6, name(4, "a")), name(7, "b")), name(10, "a")),
			op(15, 14, op(13, 5, name(14, "b")), op(17, 11, lit(16, "1"), name(18, "a")))),
		strings.Repeat("9", 60): lit(0, strings.Repeat("9", 60)),
	}
}

func TestFormulas(t *testing.T) { // P8.1
	for s, want := range someFormulas() {
		holds := func(where string, got ast.Expr, less int) {
			t.Helper()
			if whole(got, less) != whole(want, 0) {
				t.Errorf("%s %q: got %s, want %s", where, s, whole(got, less), whole(want, 0))
			}
		}
		holds("alone", formulaOf(t, s), 0)
		holds("body", bodyOf(t, s), len(head))
		holds("clause of a result", programOf(t, "fun f():int{"+s+"}=1;").Defs[0].Clause[0], 12)
		holds("clause of a parameter", programOf(t, "fun f(x:int{"+s+"}):int=1;").Defs[0].Params[0].Clause[0], 12)
	}
}

func TestResults(t *testing.T) { // P8.1
	for s, want := range map[string]ast.Expr{
		"res":      op(0, 4),
		"(res)>x":  op(5, 16, op(1, 4), name(6, "x")),
		"-res=res": op(4, 12, op(0, 5, op(1, 4)), op(5, 4)),
	} {
		if got := formulaOf(t, s); whole(got, 0) != whole(want, 0) {
			t.Errorf("%q: got %s", s, whole(got, 0))
		}
	}
}

func TestBodies(t *testing.T) { // P8.1
	a, b, c := func(at int) ast.Expr { return name(at, "a") }, func(at int) ast.Expr { return name(at, "b") }, func(at int) ast.Expr { return name(at, "c") }
	for s, want := range map[string]ast.Expr{
		"let x=a in b":            let(0, "x", a(6), b(11)),
		" let --\nx = (a) in (b)": let(1, "x", a(13), b(20)),
		"let x=let y=a in b in c": let(0, "x", let(6, "y", a(12), b(17)), c(22)),
		"let x=a in let x=b in c": let(0, "x", a(6), let(11, "x", b(17), c(22))),
		"if a then b else c":      op(0, 21, a(3), b(10), c(17)),
		"(if a then b else c)":    op(1, 21, a(4), b(11), c(18)),
		"if a then b else c+a":    op(0, 21, a(3), b(10), op(18, 7, c(17), a(19))),
		"(if a then b else c)+a":  op(20, 7, op(1, 21, a(4), b(11), c(18)), a(21)),
		"assert a in b":           op(0, 23, a(7), b(12)),
		"assert(a)in(b)":          op(0, 23, a(7), b(12)),
		"g()":                     call(0, "", "g"),
		"g(a)":                    call(0, "", "g", a(2)),
		"(g(a,(b),c))":            call(1, "", "g", a(3), b(6), c(9)),
		"m.g()":                   call(0, "m", "g"),
		" m --\n . g ( a , b )":   call(1, "m", "g", a(13), b(17)),
		"a+m.g(-b)*g(c,c)": op(1, 7, a(0), op(9, 9,
			call(2, "m", "g", op(6, 5, b(7))), call(10, "", "g", c(12), c(14)))),
		"g(let x=a in b,if a then b else c)": call(0, "", "g", let(2, "x", a(8), b(13)), op(15, 21, a(18), b(25), c(32))),
	} {
		if got := bodyOf(t, s); whole(got, len(head)) != whole(want, 0) {
			t.Errorf("%q: got %s, want %s", s, whole(got, len(head)), whole(want, 0))
		}
	}
}

func TestPrograms(t *testing.T) { // P8.1
	x := func(at int) ast.Expr { return name(at, "x") }
	for s, want := range map[string]ast.Program{
		"":                    {},
		" --":                 {},
		"import m;":           {Imports: []ast.Import{{"m", 7}}},
		"import m;import\tn;": {Imports: []ast.Import{{"m", 7}, {"n", 16}}},
		"import m; import m;": {Imports: []ast.Import{{"m", 7}, {"m", 17}}},
		"fun f():int=7;": {Defs: []ast.Def{
			{Name: "f", Base: 1, Body: lit(12, "7"), At: 4, Bare: 11}}},
		"pub fun g ( ) : bool = true ;": {Defs: []ast.Def{
			{Pub: true, Name: "g", Base: 2, Body: truth(23, true), At: 8, Bare: 20}}},
		"fun f(x:int):int=x;": {Defs: []ast.Def{
			{Name: "f", Params: []ast.Param{{Name: "x", Base: 1, At: 6, Bare: 11}}, Base: 1, Body: x(17), At: 4, Bare: 16}}},
		"fun f(x:bool{x}):int{res>x}=x;": {Defs: []ast.Def{
			{Name: "f", Params: []ast.Param{{Name: "x", Base: 2, Clause: []ast.Expr{x(13)}, At: 6, Bare: -1}}, Base: 1, Clause: []ast.Expr{op(24, 16, op(21, 4), x(25))}, Body: x(28), At: 4, Bare: -1}}},
		"import m;fun f(x:int{(x)},y:bool --\n,f:int):bool{x}=m.f(x);pub fun f():int=(x);": {
			Imports: []ast.Import{{"m", 7}},
			Defs: []ast.Def{
				{Name: "f", Params: []ast.Param{{Name: "x", Base: 1, Clause: []ast.Expr{x(22)}, At: 15, Bare: -1}, {Name: "y", Base: 2, At: 26, Bare: 32}, {Name: "f", Base: 1, At: 37, Bare: 42}},
					Base: 2, Clause: []ast.Expr{x(49)}, Body: call(52, "m", "f", x(56)), At: 13, Bare: -1},
				{Pub: true, Name: "f", Base: 1, Body: x(76), At: 67, Bare: 74}}},
	} {
		if got := programOf(t, s); wholeProgram(got) != wholeProgram(want) {
			t.Errorf("%q: got %s, want %s", s, wholeProgram(got), wholeProgram(want))
		}
	}
}

func TestAnyDepth(t *testing.T) { // P8.1
	for depth := 1; depth <= api.MaxDepth; depth++ {
		s := strings.Repeat("-(", (depth-1)/2) + "a" + strings.Repeat(")", (depth-1)/2)
		x, f := parse.Formula(s, depth)
		e, err := ast.FormulaOf(x)
		if f.E != api.OK || err != api.OK || e.Size() != (depth-1)/2+1 {
			t.Error(depth, f, err, e.Size())
		}
		y, f := parse.Parse(head+s+";", depth)
		p, err := ast.Of(y)
		if f.E != api.OK || err != api.OK || p.Defs[0].Body.Size() != (depth-1)/2+1 {
			t.Error(depth, f, err)
		}
	}
}

func TestLongTexts(t *testing.T) { // P1, P8.1
	for _, sign := range []string{"+", "%", "&&"} {
		n := (api.MaxText - len(head) - 1) / (1 + len(sign))
		s := strings.TrimSuffix(strings.Repeat("1"+sign, n), sign)
		if e := formulaOf(t, s); e.Size() != 2*n-1 || e.At != len(s)-1-len(sign) {
			t.Error(sign, e.Size(), e.At)
		}
		if e := bodyOf(t, s); e.Size() != 2*n-1 || e.At != len(head)+len(s)-1-len(sign) {
			t.Error(sign, e.Size(), e.At)
		}
	}
	if e := formulaOf(t, "1"+strings.Repeat(" ", api.MaxText-1)); e.Dump() != "[1 1]" {
		t.Error(e)
	}
}

func TestLimits(t *testing.T) { // P8.1
	eight := strings.TrimSuffix(strings.Repeat("x:int,", api.MaxParams), ",")
	s := strings.Repeat("import m;", api.MaxImports) + strings.Repeat("fun f("+eight+"):int=f("+strings.TrimSuffix(strings.Repeat("1,", api.MaxParams), ",")+");", api.MaxDefs)
	p := programOf(t, s)
	if len(p.Imports) != api.MaxImports || len(p.Defs) != api.MaxDefs {
		t.Fatal(len(p.Imports), len(p.Defs))
	}
	for _, d := range p.Defs {
		if len(d.Params) != api.MaxParams || len(d.Body.Kids) != api.MaxParams {
			t.Error(d)
		}
	}
	if n := len(p.Bare()); n != api.MaxDefs*(api.MaxParams+1) {
		t.Error(n)
	}
}

func TestGroupsAndBlanksSayNothing(t *testing.T) { // P8.1, P8.3
	for _, texts := range [][]string{
		{"fun f(x:int):int=x+1*2;", " fun f ( x : int ) : int = x+(1*2) ; --", "fun f(x:int):int=((x)+((1)*2));"},
		{"fun f():int{res>1}=1;", "fun f ():int{((res)>(1))} =(1);"},
		{"import m;fun f():int=if true then m.f(1)else 2;", "import\nm;fun f():int=(if(true)then(m . f((1)))else(2));"},
	} {
		for _, s := range texts {
			if got, want := programOf(t, s), programOf(t, texts[0]); got.Dump() != want.Dump() || !ast.Same(got, want) {
				t.Errorf("%q: got %s", s, got.Dump())
			}
		}
	}
}

func TestEachHasAPlaceOfItsOwn(t *testing.T) { // P8.1
	const s = "let x=(m.g(a,-1))in if not(a<b)then(x)else assert x>=0||true in(f(x%2,a))"
	var places []int
	var visit func(e ast.Expr)
	visit = func(e ast.Expr) {
		places = append(places, e.At)
		for _, kid := range e.Kids {
			visit(kid)
		}
	}
	visit(bodyOf(t, s))
	slices.Sort(places)
	var told string
	for _, at := range slices.Compact(places) {
		told += s[at-len(head):][:1]
	}
	if told != "lma-1ina<bxax>0|tfx%2a" {
		t.Error(told)
	}
}
