package show_test

import (
	"reflect"
	"runtime/debug"
	"slices"
	"strconv"
	"strings"
	"testing"
	"unsafe"

	"touchstone/api"
	"touchstone/ast"
	"touchstone/lex"
	"touchstone/show"
	"touchstone/zed"
)

// wantNowhere holds that an expression has no text anywhere, nor has one with it inside.
func wantNowhere(t *testing.T, what string, e ast.Expr) {
	t.Helper()
	wantEverywhere(t, what, e, "", "")
	x := name("x")
	for _, around := range []ast.Expr{op(ast.Neg, e), op(ast.Not, e), op(ast.Add, e, x), op(ast.Add, x, e), op(ast.Imp, x, op(ast.And, op(ast.Not, e), x))} {
		wantEverywhere(t, what+", inside", around, "", "")
	}
	for _, around := range []ast.Expr{op(ast.If, e, x, x), op(ast.If, x, e, x), op(ast.If, x, x, e), let("x", e, x), let("x", x, e), op(ast.Assert, e, x), op(ast.Assert, x, e), call("", "g", e), call("m", "g", x, x, e)} {
		wantEverywhere(t, what+", inside", around, "", "")
	}
}

func TestOpsThatAreNone(t *testing.T) { // P9.1, P9.2
	for _, o := range []int{-1 << 63, -24, -1, 0, 25, 26, 48, 256 + ast.Var, 1<<63 - 1} {
		for kids := range 4 {
			e := ast.Expr{Op: o}
			for range kids {
				e.Kids = append(e.Kids, name("x"))
			}
			wantNowhere(t, strconv.Itoa(o), e)
			e.Name = "x"
			wantNowhere(t, strconv.Itoa(o), e)
		}
	}
}

func TestCountsOfKids(t *testing.T) { // P9.1, P9.2
	for o := 1; o <= 24; o++ {
		for n := range 12 {
			e, _ := simple(o)
			e.Kids = slices.Repeat([]ast.Expr{name("x")}, n)
			want := countOf[o-1]
			if n == want || want < 0 && n <= api.MaxParams {
				if _, err := show.Body(e); (err == api.OK) != (o != ast.Res) {
					t.Error(o, n, err)
				}
			} else {
				wantNowhere(t, strconv.Itoa(o)+" of "+strconv.Itoa(n), e)
			}
		}
	}
	wantNowhere(t, "far too many", call("", "g", make([]ast.Expr, 100000)...))
}

func TestWhatIsNotNamedIsNothing(t *testing.T) { // P9.1, P9.2
	for o := 1; o <= 24; o++ {
		right, _ := simple(o)
		what := strconv.Itoa(o)
		if o != ast.Var && o != ast.Let && o != ast.Call {
			e := right
			e.Name = "x"
			wantNowhere(t, what+" with a name", e)
		}
		if o != ast.Call {
			e := right
			e.Module = "m"
			wantNowhere(t, what+" with a module", e)
		}
		if o != ast.Lit {
			for _, n := range []int{1, -1, 7} {
				e := right
				e.Num = zed.From(n)
				wantNowhere(t, what+" with a number", e)
			}
			e := right
			e.Num = zed.From(5).Sub(zed.From(5))
			if _, err := show.Body(e); (err == api.OK) != (o != ast.Res) {
				t.Error("0 is a zero value, however it came about", o)
			}
		}
		if o != ast.Truth {
			e := right
			e.Yes = true
			wantNowhere(t, what+" with a truth", e)
		}
	}
}

// noNames are texts that are no plain words.
func noNames() []string {
	return append(lex.Keys(), "", " ", "_", "_x", "9", "9x", "x y", " x", "x ", "x\n", "x.y", "x-", "x--", "é", "xé", "\xff", "x\x00", "x;fun", strings.Repeat("x", api.MaxName+1))
}

func TestNames(t *testing.T) { // P9.1, P9.2
	x := name("x")
	for _, s := range noNames() {
		wantNowhere(t, s, name(s))
		wantNowhere(t, s, let(s, x, x))
		wantNowhere(t, s, call("", s))
		wantNowhere(t, s, call("m", s, x))
		if s != "" {
			wantNowhere(t, s, call(s, "g", x))
		}
		body := []ast.Def{{Name: "f", Base: 1, Body: x}}
		wantProgram(t, s, ast.Program{Imports: []ast.Import{{Name: "m"}, {Name: s}}, Defs: body}, "")
		wantProgram(t, s, ast.Program{Defs: []ast.Def{body[0], {Name: s, Base: 1, Body: x}}}, "")
		wantProgram(t, s, ast.Program{Defs: []ast.Def{{Name: "f", Params: []ast.Param{{Name: "x", Base: 1}, {Name: s, Base: 1}}, Base: 1, Body: x}}}, "")
	}
	for _, s := range []string{"x", "Z", "x_", "a9_B", "lets", "Res", "INT", strings.Repeat("x", api.MaxName)} {
		wantEverywhere(t, s, name(s), s, s)
		wantEverywhere(t, s, let(s, x, x), "", "let "+s+" = x in x")
		wantEverywhere(t, s, call(s, s, x), "", s+"."+s+"(x)")
		wantProgram(t, s, ast.Program{
			Imports: []ast.Import{{Name: s}},
			Defs:    []ast.Def{{Name: s, Params: []ast.Param{{Name: s, Base: 1}}, Base: 1, Body: x}},
		}, "import "+s+";\nfun "+s+"("+s+": int): int = x;\n")
	}
}

func TestNumbers(t *testing.T) { // P9.1, P9.2
	nines := lit(strings.Repeat("9", api.MaxDigits))
	wantEverywhere(t, "nines", nines, strings.Repeat("9", api.MaxDigits), strings.Repeat("9", api.MaxDigits))
	tooMuch := ast.Expr{Op: ast.Lit, Num: nines.Num.Add(zed.From(1))}
	wantNowhere(t, "one more", tooMuch)
	wantNowhere(t, "below 0", ast.Expr{Op: ast.Lit, Num: zed.From(-1)})
	wantNowhere(t, "far below 0", ast.Expr{Op: ast.Lit, Num: nines.Num.Neg()})
	// Of those of 200 binary digits some have 60 decimal ones, some 61.
	for n := range 260 {
		p, _ := zed.Pow(zed.From(2), n)
		want := p.String()
		if len(want) > api.MaxDigits {
			want = ""
		}
		wantFormula(t, "a power of 2", ast.Expr{Op: ast.Lit, Num: p}, want)
	}
	huge := zed.From(3)
	for range 19 {
		huge = huge.Mul(huge)
	}
	wantNowhere(t, "a number whose text takes long", ast.Expr{Op: ast.Lit, Num: huge})
}

func TestFormulasAndBodiesApart(t *testing.T) { // P9.1, P9.2
	x := name("x")
	for s, want := range ofBodies() {
		e := bodyOf(t, s)
		for _, around := range []ast.Expr{op(ast.Neg, e), op(ast.Add, x, e), op(ast.Imp, x, op(ast.Not, op(ast.Lt, e, x)))} {
			if _, err := show.Formula(around); err != api.ErrForm {
				t.Errorf("a formula with %s: %d", want, err)
			}
			if _, err := show.Body(around); err != api.OK {
				t.Errorf("a body with %s: %d", want, err)
			}
		}
	}
	res := ast.Expr{Op: ast.Res}
	wantEverywhere(t, "deep", op(ast.Or, op(ast.Not, op(ast.Lt, x, op(ast.Neg, res))), x), "not x < -res || x", "")
	for _, e := range []ast.Expr{op(ast.If, x, x, res), let("x", res, x), op(ast.Assert, x, res), call("", "g", x, res), call("", "g", op(ast.If, res, x, x))} {
		wantNowhere(t, "the result in what is no formula", e)
	}
}

func TestLimits(t *testing.T) { // P9.1, P9.2
	one := lit("1")
	def := ast.Def{Name: "f", Base: 1, Body: one}
	of := func(imports, params, args int) ast.Program {
		d := def
		d.Params = slices.Repeat([]ast.Param{{Name: "x", Base: 2}}, params)
		d.Body = call("", "f", slices.Repeat([]ast.Expr{one}, args)...)
		return ast.Program{Imports: slices.Repeat([]ast.Import{{Name: "m"}}, imports), Defs: []ast.Def{def, d}}
	}
	for extra := range 3 {
		for i, p := range []ast.Program{of(api.MaxImports+extra, 0, 0), of(0, api.MaxParams+extra, 0), of(0, 0, api.MaxParams+extra), {Defs: slices.Repeat([]ast.Def{def}, api.MaxDefs+extra)}} {
			want := ""
			if extra == 0 {
				want = programText(p)
			}
			wantProgram(t, strconv.Itoa(i)+" and more: "+strconv.Itoa(extra), p, want)
		}
	}
	full := slices.Repeat([]ast.Def{of(0, api.MaxParams, api.MaxParams).Defs[1]}, api.MaxDefs)
	p := ast.Program{Imports: of(api.MaxImports, 0, 0).Imports, Defs: full}
	wantProgram(t, "all limits", p, programText(p))
}

func TestWrongPartsOfPrograms(t *testing.T) { // P9.2
	x := name("x")
	res, ifs := ast.Expr{Op: ast.Res}, op(ast.If, x, x, x)
	fine := ast.Def{Name: "f", Base: 1, Body: x}
	holds := func(what string, change func(d *ast.Def, p *ast.Param)) {
		t.Helper()
		d := fine
		param := ast.Param{Name: "x", Base: 1}
		change(&d, &param)
		d.Params = []ast.Param{{Name: "y", Base: 2}, param}
		wantProgram(t, what, ast.Program{Defs: []ast.Def{fine, d, fine}}, "")
	}
	for _, base := range []int{-1 << 63, -1, 0, 3, 257, 1<<63 - 1} {
		holds("a result's base", func(d *ast.Def, _ *ast.Param) { d.Base = base })
		holds("a parameter's base", func(_ *ast.Def, p *ast.Param) { p.Base = base })
	}
	for _, clause := range [][]ast.Expr{{{}}, {ifs}, {op(ast.Not, ifs)}, {call("", "g")}, {x, x}, {res, x, x}, {x, {}}} {
		holds("a result's clause", func(d *ast.Def, _ *ast.Param) { d.Clause = clause })
		holds("a parameter's clause", func(_ *ast.Def, p *ast.Param) { p.Clause = clause })
	}
	for _, body := range []ast.Expr{{}, res, op(ast.Add, x, res), op(ast.If, x, x, op(ast.Neg, res)), op(ast.Add, x)} {
		holds("a body", func(d *ast.Def, _ *ast.Param) { d.Body = body })
	}
}

// deep is so many expressions of an Op in each other, each at a place among the kids of the one around it, and a last one in the middle.
func deep(o, at, n int, last ast.Expr) ast.Expr {
	e := last
	for range n {
		around, _ := simple(o)
		around.Kids[at] = e
		e = around
	}
	return e
}

func TestDeepExpressions(t *testing.T) { // P1, P9.1, P9.2
	defer debug.SetMaxStack(debug.SetMaxStack(1 << 20))
	const n = 50000
	for _, l := range []struct {
		op, at     int
		head, tail string
		parens     bool
	}{
		{ast.Neg, 0, "-", "", true},
		{ast.Not, 0, "not ", "", false},
		{ast.Add, 0, "", " + b", false},
		{ast.Sub, 1, "a - ", "", true},
		{ast.Eq, 0, "", " = b", true},
		{ast.Imp, 0, "", " => b", true},
		{ast.Imp, 1, "a => ", "", false},
		{ast.If, 0, "if ", " then b else c", false},
		{ast.Let, 1, "let x = a in ", "", false},
		{ast.Call, 0, "m.g(", ", b)", false},
	} {
		left, right := l.head, l.tail
		if l.parens {
			left, right = l.head+"(", ")"+l.tail
		}
		want := strings.Repeat(left, n-1) + l.head + "x" + l.tail + strings.Repeat(right, n-1)
		inFormula := want
		if l.op > ast.Imp {
			inFormula = ""
		}
		wantFormula(t, "deep", deep(l.op, l.at, n, name("x")), inFormula)
		wantBody(t, "deep", deep(l.op, l.at, n, name("x")), want)
		wantBody(t, "deep, with something wrong", deep(l.op, l.at, n, ast.Expr{}), "")
	}
	p := ast.Program{Defs: []ast.Def{{Name: "f", Base: 1, Clause: []ast.Expr{deep(ast.Not, 0, n, name("x"))}, Body: deep(ast.Let, 1, n, name("x"))}}}
	wantProgram(t, "deep", p, "fun f(): int {"+strings.Repeat("not ", n)+"x} = "+strings.Repeat("let x = a in ", n)+"x;\n")
}

func TestEndlessExpressions(t *testing.T) { // P1, P9.1, P9.2
	x := name("x")
	for ahead := range 5 {
		for round := 1; round < 7; round++ {
			for at := range 2 {
				// A ring of expressions, each in the one ahead of it.
				ring := make([][]ast.Expr, round)
				for i := range ring {
					ring[i] = []ast.Expr{x, x}
				}
				for i := range ring {
					ring[i][at] = op(ast.Add, ring[(i+1)%round]...)
				}
				e := op(ast.Add, ring[0]...)
				wantNowhere(t, "endless", deep(ast.Imp, 1-at, ahead, e))
				wantTyped(t, "a clause in itself", api.Int, ring[0][at:at+1], "")
			}
		}
	}
	both := make([]ast.Expr, 2)
	both[0], both[1] = op(ast.Add, both...), op(ast.Mul, both...)
	wantNowhere(t, "both endless", op(ast.Or, both...))
	alone := make([]ast.Expr, 1)
	alone[0] = op(ast.Neg, alone...)
	wantNowhere(t, "endless", alone[0])
	wantTyped(t, "a clause that is in itself", api.Bool, alone, "")
}

func TestSharedKidsAreFine(t *testing.T) { // P9.1
	kids := []ast.Expr{name("a"), lit("1")}
	sum := op(ast.Add, kids...)
	twice := []ast.Expr{sum, sum}
	wantFormula(t, "shared", op(ast.Mul, twice...), "(a + 1) * (a + 1)")
	wantFormula(t, "shared", op(ast.Lt, op(ast.Mul, twice...), op(ast.Mul, twice...)), "(a + 1) * (a + 1) < (a + 1) * (a + 1)")
	wantFormula(t, "shared", op(ast.Sub, sum, op(ast.Mul, kids...)), "a + 1 - a * 1")
}

func TestLongTexts(t *testing.T) { // P9.1, P9.2
	// No limit of texts is named here.
	const n = api.MaxText
	want := strings.Repeat("a + ", n) + "a"
	e := name("a")
	for range n {
		e = op(ast.Add, e, name("a"))
	}
	wantEverywhere(t, "long", e, want, want)
}

func TestNothingIsChanged(t *testing.T) { // P9.1, P9.2
	const s = "import m; pub fun f(x: int {x > 0}, y: bool): int {res > -x} = let z = m.g(x, 1 + y) in if y then z - 1 else assert z <= 0 in f(z, not (y)); fun h(): bool = true;"
	p, same := programOf(t, s), programOf(t, s)
	imports, defs := append(make([]ast.Import, 0, 9), p.Imports...), append(make([]ast.Def, 0, 9), p.Defs...)
	kids := append(make([]ast.Expr, 0, 9), defs[0].Body.Kids...)
	params := append(make([]ast.Param, 0, 9), defs[0].Params...)
	clause := append(make([]ast.Expr, 0, 9), defs[0].Clause...)
	defs[0].Body.Kids, defs[0].Params, defs[0].Clause = kids, params, clause
	q := ast.Program{Imports: imports, Defs: defs}
	first, e := show.Program(q)
	if e != api.OK {
		t.Fatal(e)
	}
	show.Body(defs[0].Body)
	show.Formula(clause[0])
	show.Typed(1, clause)
	if !reflect.DeepEqual(q.Erase(), same.Erase()) || !ast.Same(q, same) {
		t.Error("a program was changed")
	}
	if !reflect.DeepEqual(imports[:9][1:], make([]ast.Import, 8)) || !reflect.DeepEqual(defs[:9][2:], make([]ast.Def, 7)) || !reflect.DeepEqual(kids[:9][2:], make([]ast.Expr, 7)) || !reflect.DeepEqual(params[:9][2:], make([]ast.Param, 7)) || !reflect.DeepEqual(clause[:9][1:], make([]ast.Expr, 8)) {
		t.Error("the room behind a list was changed")
	}
	if again, _ := show.Program(q); again != first {
		t.Error("two answers of one program")
	}
}

// within tells whether a text is a piece of another one's memory.
func within(piece, whole string) bool {
	from, at := uintptr(unsafe.Pointer(unsafe.StringData(whole))), uintptr(unsafe.Pointer(unsafe.StringData(piece)))
	return piece != "" && at >= from && at < from+uintptr(len(whole))
}

func TestTextsAreTheirOwn(t *testing.T) { // P9.1, P9.2
	given := strings.Repeat("n", api.MaxName)
	x := name(given)
	var told []string
	for range 2 {
		for _, call := range []func() (string, api.Errno){
			func() (string, api.Errno) { return show.Formula(x) },
			func() (string, api.Errno) { return show.Body(x) },
			func() (string, api.Errno) { return show.Formula(ast.Expr{Op: ast.Res}) },
			func() (string, api.Errno) { return show.Body(ast.Expr{Op: ast.Truth}) },
			func() (string, api.Errno) { return show.Typed(1, nil) },
			func() (string, api.Errno) { return show.Typed(2, []ast.Expr{x}) },
			func() (string, api.Errno) {
				return show.Program(ast.Program{Imports: []ast.Import{{Name: given}}})
			},
		} {
			s, e := call()
			if e != api.OK {
				t.Fatal(e)
			}
			if within(s, given) || within(given, s) {
				t.Error(s, "shares the memory of a text that was handed in")
			}
			for _, other := range told {
				if within(s, other) || within(other, s) {
					t.Error(s, "shares the memory of another answer")
				}
			}
			told = append(told, s)
		}
	}
}
