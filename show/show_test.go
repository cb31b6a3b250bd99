package show_test

import (
	"strconv"
	"strings"
	"testing"

	"touchstone/api"
	"touchstone/ast"
	"touchstone/parse"
	"touchstone/show"
	"touchstone/zed"
)

// formulaOf is the expression of a formula.
func formulaOf(t *testing.T, s string) ast.Expr {
	t.Helper()
	x, f := parse.Formula(s, api.MaxDepth)
	if f.E != api.OK {
		t.Fatalf("%q: %v", s, f)
	}
	out, e := ast.FormulaOf(x)
	if e != api.OK {
		t.Fatalf("%q: error %d", s, e)
	}
	return out
}

// programOf is the program of a text.
func programOf(t *testing.T, s string) ast.Program {
	t.Helper()
	x, f := parse.Parse(s, api.MaxDepth)
	if f.E != api.OK {
		t.Fatalf("%q: %v", s, f)
	}
	out, e := ast.Of(x)
	if e != api.OK {
		t.Fatalf("%q: error %d", s, e)
	}
	return out
}

// bodyOf is the expression of a body.
func bodyOf(t *testing.T, s string) ast.Expr {
	t.Helper()
	return programOf(t, "fun f():int="+s+";").Defs[0].Body
}

// These make expressions.

func lit(digits string) ast.Expr {
	n, e := zed.Parse(digits)
	if e != api.OK {
		panic(digits)
	}
	return ast.Expr{Op: ast.Lit, Num: n}
}

func name(s string) ast.Expr { return ast.Expr{Op: ast.Var, Name: s} }

func op(op int, kids ...ast.Expr) ast.Expr { return ast.Expr{Op: op, Kids: kids} }

func let(s string, is, in ast.Expr) ast.Expr {
	return ast.Expr{Op: ast.Let, Name: s, Kids: []ast.Expr{is, in}}
}

func call(module, s string, kids ...ast.Expr) ast.Expr {
	return ast.Expr{Op: ast.Call, Module: module, Name: s, Kids: kids}
}

// wants holds what a call told against the text that it must tell; that of nothing is ErrForm.
func wants(t *testing.T, what string, want string, got string, e api.Errno) {
	t.Helper()
	if want == "" && (e != api.ErrForm || got != "") || want != "" && (e != api.OK || got != want) {
		t.Errorf("%s: got %q and error %d, want %q", what, got, e, want)
	}
}

func wantFormula(t *testing.T, what string, e ast.Expr, want string) {
	t.Helper()
	got, err := show.Formula(e)
	wants(t, "formula: "+what, want, got, err)
}

func wantBody(t *testing.T, what string, e ast.Expr, want string) {
	t.Helper()
	got, err := show.Body(e)
	wants(t, "body: "+what, want, got, err)
}

func wantTyped(t *testing.T, what string, base int, clause []ast.Expr, want string) {
	t.Helper()
	got, err := show.Typed(base, clause)
	wants(t, "typed: "+what, want, got, err)
}

func wantProgram(t *testing.T, what string, p ast.Program, want string) {
	t.Helper()
	got, err := show.Program(p)
	wants(t, "program: "+what, want, got, err)
}

// wantEverywhere holds the text of an expression alone, in clauses and in a body.
func wantEverywhere(t *testing.T, what string, e ast.Expr, inFormula, inBody string) {
	t.Helper()
	wantFormula(t, what, e, inFormula)
	wantBody(t, what, e, inBody)
	around := func(head, s, tail string) string {
		if s == "" {
			return ""
		}
		return head + s + tail
	}
	clause, one := []ast.Expr{e}, lit("1")
	wantTyped(t, what, api.Int, clause, around("int {", inFormula, "}"))
	wantTyped(t, what, api.Bool, clause, around("bool {", inFormula, "}"))
	wantProgram(t, what, ast.Program{Defs: []ast.Def{{Name: "f", Base: 1, Clause: clause, Body: one}}}, around("fun f(): int {", inFormula, "} = 1;\n"))
	wantProgram(t, what, ast.Program{Defs: []ast.Def{{Name: "f", Params: []ast.Param{{Name: "x", Base: 2, Clause: clause}}, Base: 1, Body: one}}}, around("fun f(x: bool {", inFormula, "}): int = 1;\n"))
	wantProgram(t, what, ast.Program{Defs: []ast.Def{{Name: "f", Base: 1, Body: e}}}, around("fun f(): int = ", inBody, ";\n"))
}

// both are expressions that may be in formulas and in bodies, as they may be written, and their texts.
func both() map[string]string {
	return map[string]string{
		"0":                "0",
		"17":               "17",
		"true":             "true",
		"false":            "false",
		"x":                "x",
		"Ab_9":             "Ab_9",
		"-a":               "-a",
		"- -a":             "-(-a)",
		"-(a+b)":           "-(a + b)",
		"-(a*b)":           "-(a * b)",
		"-(a<b)":           "-(a < b)",
		"-(not a)":         "-(not a)",
		"-(7)":             "-7",
		"-true":            "-true",
		"not a":            "not a",
		"not not a":        "not not a",
		"not(-a)":          "not -a",
		"not(a=b)":         "not a = b",
		"not(a&&b)":        "not (a && b)",
		"not(a||b)":        "not (a || b)",
		"not(a=>b)":        "not (a => b)",
		"not(a+b)":         "not a + b",
		"a+b":              "a + b",
		"a-b":              "a - b",
		"a*b":              "a * b",
		"a/b":              "a / b",
		"a%b":              "a % b",
		"a=b":              "a = b",
		"a<>b":             "a <> b",
		"a<b":              "a < b",
		"a<=b":             "a <= b",
		"a>b":              "a > b",
		"a>=b":             "a >= b",
		"a&&b":             "a && b",
		"a||b":             "a || b",
		"(a)=>(b)":         "a => b",
		"a+b+c":            "a + b + c",
		"a+(b+c)":          "a + (b + c)",
		"a-b+c":            "a - b + c",
		"a-(b+c)":          "a - (b + c)",
		"a-(b-c)":          "a - (b - c)",
		"a+b*c":            "a + b * c",
		"(a+b)*c":          "(a + b) * c",
		"a*(b+c)":          "a * (b + c)",
		"a*b*c":            "a * b * c",
		"a*(b*c)":          "a * (b * c)",
		"a/b%c":            "a / b % c",
		"a/(b%c)":          "a / (b % c)",
		"a*-b":             "a * -b",
		"-a*b":             "-a * b",
		"a- -b":            "a - -b",
		"(a<b)=c":          "(a < b) = c",
		"a=(b<c)":          "a = (b < c)",
		"(not a)=b":        "(not a) = b",
		"a=(not b)":        "a = (not b)",
		"(not a)+b":        "(not a) + b",
		"a+b<c*d":          "a + b < c * d",
		"a&&b&&c":          "a && b && c",
		"a&&(b&&c)":        "a && (b && c)",
		"a||b||c":          "a || b || c",
		"a||(b||c)":        "a || (b || c)",
		"a&&b||c":          "a && b || c",
		"a&&(b||c)":        "a && (b || c)",
		"(a||b)&&c":        "(a || b) && c",
		"a||b&&c":          "a || b && c",
		"not a&&b":         "not a && b",
		"a&&not b":         "a && not b",
		"(not a)||(not b)": "not a || not b",
		"(a=b)&&(c=d)":     "a = b && c = d",
		"(a=>b)=>c":        "(a => b) => c",
		"a=>(b=>c)":        "a => b => c",
		"(a=>b)||c":        "(a => b) || c",
		"a||(b=>c)":        "a || (b => c)",
		"(a||b)=>(c||d)":   "a || b => c || d",
		"a=b=>not c":       "a = b => not c",
		"not(a&&-(b+1)<c)": "not (a && -(b + 1) < c)",
	}
}

func TestFormulasAndBodies(t *testing.T) { // P9.1, P9.2
	for s, want := range both() {
		wantEverywhere(t, s, formulaOf(t, s), want, want)
		wantEverywhere(t, s, bodyOf(t, s), want, want)
	}
}

func TestResults(t *testing.T) { // P9.1
	for s, want := range map[string]string{
		"res":               "res",
		"-(res)":            "-res",
		"((res))%(2/3)":     "res % (2 / 3)",
		"not(res)||res=res": "not res || res = res",
	} {
		wantEverywhere(t, s, formulaOf(t, s), want, "")
	}
}

// ofBodies are bodies that are no formulas, and their texts.
func ofBodies() map[string]string {
	return map[string]string{
		"let x=a in b":                         "let x = a in b",
		"(let x=(a)in(b))":                     "let x = a in b",
		"let x=let y=a in b in c":              "let x = let y = a in b in c",
		"let x=a in let y=b in c":              "let x = a in let y = b in c",
		"let x=a=>b in not c":                  "let x = a => b in not c",
		"if a then b else c":                   "if a then b else c",
		"if(if a then b else c)then d else e":  "if if a then b else c then d else e",
		"if a then if b then c else d else e":  "if a then if b then c else d else e",
		"if a then b else(if c then d else e)": "if a then b else if c then d else e",
		"if a=>b then c+d else not e":          "if a => b then c + d else not e",
		"assert a in b":                        "assert a in b",
		"assert assert a in b in c":            "assert assert a in b in c",
		"assert a in assert b in(c)":           "assert a in assert b in c",
		"if a then b else c+d":                 "if a then b else c + d",
		"(if a then b else c)+d":               "(if a then b else c) + d",
		"a+(if b then c else d)":               "a + (if b then c else d)",
		"a=>(let x=b in c)":                    "a => (let x = b in c)",
		"a||(assert b in c)":                   "a || (assert b in c)",
		"not(let x=a in b)":                    "not (let x = a in b)",
		"-(assert a in b)":                     "-(assert a in b)",
		"g()":                                  "g()",
		"g(a)":                                 "g(a)",
		"g(a,(b),c)":                           "g(a, b, c)",
		"m.g()":                                "m.g()",
		"m . g(a , b)":                         "m.g(a, b)",
		"g(h(),m.g(h(a)),b)":                   "g(h(), m.g(h(a)), b)",
		"-g(-a)":                               "-g(-a)",
		"-m.g(a)*g(b+c,d=>e)":                  "-m.g(a) * g(b + c, d => e)",
		"g(let x=a in b,if a then b else c,assert a in b)": "g(let x = a in b, if a then b else c, assert a in b)",
	}
}

func TestBodies(t *testing.T) { // P9.1, P9.2
	for s, want := range ofBodies() {
		wantEverywhere(t, s, bodyOf(t, s), "", want)
	}
}

// signsOf are the signs by their Ops, from 7 on.
var signsOf = strings.Fields("+ - * / % = <> < <= > >= && || =>")

// levels are those of the chapter by their Ops, from 1 on.
var levels = []int{9, 9, 9, 9, 8, 4, 6, 6, 7, 7, 7, 5, 5, 5, 5, 5, 5, 3, 2, 1, 0, 0, 0, 9}

// least are the levels that kids may have, by the Op around them, from 1 on: the first kid's and the second one's.
var least = [][2]int{
	{}, {}, {}, {}, {9}, {4},
	{6, 7}, {6, 7}, {7, 8}, {7, 8}, {7, 8},
	{6, 6}, {6, 6}, {6, 6}, {6, 6}, {6, 6}, {6, 6},
	{3, 4}, {2, 3}, {2, 1},
	{}, {}, {}, {},
}

// simple is an expression of an Op, and its text.
func simple(op int) (ast.Expr, string) {
	a, b, c := name("a"), name("b"), name("c")
	e := ast.Expr{Op: op}
	switch {
	case op == 1:
		return lit("7"), "7"
	case op == 2:
		e.Yes = true
		return e, "true"
	case op == 3:
		return a, "a"
	case op == 4:
		return e, "res"
	case op == 5:
		e.Kids = []ast.Expr{a}
		return e, "-a"
	case op == 6:
		e.Kids = []ast.Expr{a}
		return e, "not a"
	case op <= 20:
		e.Kids = []ast.Expr{a, b}
		return e, "a " + signsOf[op-7] + " b"
	case op == 21:
		e.Kids = []ast.Expr{a, b, c}
		return e, "if a then b else c"
	case op == 22:
		return let("x", a, b), "let x = a in b"
	case op == 23:
		e.Kids = []ast.Expr{a, b}
		return e, "assert a in b"
	}
	return call("m", "g", a, b), "m.g(a, b)"
}

func TestEachInEach(t *testing.T) { // P9.1, P9.2
	const mark = "zzz"
	for outer := 1; outer <= 24; outer++ {
		e, _ := simple(outer)
		for i := range e.Kids {
			with := func(kid ast.Expr) ast.Expr {
				e, _ := simple(outer)
				e.Kids[i] = kid
				return e
			}
			frame, err := show.Body(with(name(mark)))
			if err != api.OK || strings.Count(frame, mark) != 1 {
				t.Fatal(outer, i, frame)
			}
			may := 0
			if outer <= 20 {
				may = least[outer-1][i]
			}
			for inner := 1; inner <= 24; inner++ {
				kid, text := simple(inner)
				if levels[inner-1] < may {
					text = "(" + text + ")"
				}
				want := strings.Replace(frame, mark, text, 1)
				inFormula, inBody := want, want
				if outer > 20 || inner > 20 {
					inFormula = ""
				}
				if inner == 4 {
					inBody = ""
				}
				wantEverywhere(t, strconv.Itoa(outer)+" "+strconv.Itoa(i)+" "+strconv.Itoa(inner), with(kid), inFormula, inBody)
			}
		}
	}
}

func TestTyped(t *testing.T) { // P9.1
	res, x := ast.Expr{Op: ast.Res}, name("x")
	wantTyped(t, "int", 1, nil, "int")
	wantTyped(t, "bool", 2, nil, "bool")
	wantTyped(t, "an empty list", 1, []ast.Expr{}, "int")
	wantTyped(t, "an empty list with room", 2, make([]ast.Expr, 0, 3), "bool")
	wantTyped(t, "a clause", 1, []ast.Expr{op(ast.Lt, x, res)}, "int {x < res}")
	wantTyped(t, "a clause", 2, []ast.Expr{op(ast.Imp, x, res)}, "bool {x => res}")
	for _, base := range []int{-1 << 63, -1, 0, 3, 4, 258, 1<<32 + 1, 1<<63 - 1} {
		wantTyped(t, "a base that is none", base, nil, "")
		wantTyped(t, "a base that is none", base, []ast.Expr{res}, "")
	}
	for base := 1; base <= 2; base++ {
		wantTyped(t, "two clauses", base, []ast.Expr{res, res}, "")
		wantTyped(t, "three clauses", base, []ast.Expr{res, x, x}, "")
		wantTyped(t, "no formula", base, []ast.Expr{{}}, "")
		wantTyped(t, "no formula", base, []ast.Expr{call("", "g")}, "")
	}
}

func TestPrograms(t *testing.T) { // P9.2
	for s, want := range map[string]string{
		"import m;":                     "import m;\n",
		"import m;import n;import m;--": "import m;\nimport n;\nimport m;\n",
		"fun f():int=1;":                "fun f(): int = 1;\n",
		"pub fun g():bool=true;":        "pub fun g(): bool = true;\n",
		"fun f(x:int):bool=(x);":        "fun f(x: int): bool = x;\n",
		"fun f(x:int,y:bool):int=x;":    "fun f(x: int, y: bool): int = x;\n",
		"fun f(x:int{(x)>0},y:bool{y=>not res}):int{x<res}=x;":                           "fun f(x: int {x > 0}, y: bool {y => not res}): int {x < res} = x;\n",
		"fun f(x:int,x:int,f:int):int=f(x,x,x);fun f():int=1;":                           "fun f(x: int, x: int, f: int): int = f(x, x, x);\nfun f(): int = 1;\n",
		"import m;pub fun f(x:int):int{res>x}=m.f(x)+1;fun h(y:bool{y}):bool=not(y);":    "import m;\npub fun f(x: int): int {res > x} = m.f(x) + 1;\nfun h(y: bool {y}): bool = not y;\n",
		"fun f():int=let z=1in if true then z else assert false in(g(z));fun g():int=2;": "fun f(): int = let z = 1 in if true then z else assert false in g(z);\nfun g(): int = 2;\n",
	} {
		wantProgram(t, s, programOf(t, s), want)
	}
	if got, e := show.Program(ast.Program{}); got != "" || e != api.OK {
		t.Error(got, e)
	}
	if got, e := show.Program(ast.Program{Imports: []ast.Import{}, Defs: []ast.Def{}}); got != "" || e != api.OK {
		t.Error(got, e)
	}
}

func TestPlacesPlayNoPart(t *testing.T) { // P9.1, P9.2
	for _, at := range []int{-1 << 63, -7, -1, 0, 1, 1<<63 - 1} {
		x := ast.Expr{Op: ast.Var, Name: "x", At: at}
		e := ast.Expr{Op: ast.Add, Kids: []ast.Expr{x, x}, At: at}
		wantEverywhere(t, "places", e, "x + x", "x + x")
		for _, bare := range []int{-1 << 63, -1, 0, 3} {
			wantProgram(t, "places", ast.Program{
				Imports: []ast.Import{{Name: "m", At: at}},
				Defs: []ast.Def{{Name: "f", Base: 1, Body: e, At: at, Bare: bare, Params: []ast.Param{
					{Name: "x", Base: 1, At: at, Bare: bare},
					{Name: "y", Base: 2, At: at, Bare: bare, Clause: []ast.Expr{x}},
				}}},
			}, "import m;\nfun f(x: int, y: bool {x}): int = x + x;\n")
		}
	}
}

func TestEmptyListsAndMeaningPlayNoPart(t *testing.T) { // P9.1, P9.2
	// An empty list of kids is as none.
	for _, e := range []ast.Expr{lit("0"), {Op: ast.Truth}, name("x"), call("", "g")} {
		want, _ := show.Body(e)
		e.Kids = make([]ast.Expr, 0, 4)
		wantBody(t, want, e, want)
	}
	// What has no meaning is written all the same.
	wantBody(t, "a name of nothing", name("nothing"), "nothing")
	wantFormula(t, "true of numbers", op(ast.And, lit("1"), lit("2")), "1 && 2")
	wantProgram(t, "twice", ast.Program{Imports: []ast.Import{{Name: "m"}, {Name: "m"}}}, "import m;\nimport m;\n")
}
