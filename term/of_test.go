package term_test

import (
	"runtime/debug"
	"slices"
	"strconv"
	"strings"
	"testing"

	"touchstone/api"
	"touchstone/ast"
	"touchstone/parse"
	"touchstone/show"
	"touchstone/term"
	"touchstone/zed"
)

// formulaOf is the expression of a formula.
func formulaOf(t *testing.T, s string) ast.Expr {
	t.Helper()
	x, f := parse.Formula(s, api.MaxDepth)
	if f.E != api.OK {
		t.Fatalf("%.200q: %v", s, f)
	}
	out, e := ast.FormulaOf(x)
	if e != api.OK {
		t.Fatalf("%.200q: error %d", s, e)
	}
	return out
}

// These make expressions.

func name(s string) ast.Expr { return ast.Expr{Op: ast.Var, Name: s} }

func lit(n int) ast.Expr { return ast.Expr{Op: ast.Lit, Num: zed.From(n)} }

func op(op int, kids ...ast.Expr) ast.Expr { return ast.Expr{Op: op, Kids: kids} }

var (
	res = ast.Expr{Op: ast.Res}
	yes = ast.Expr{Op: ast.Truth, Yes: true}
)

// wantOf holds an expression's term against its text; of an error there is none.
func wantOf(t *testing.T, what string, e ast.Expr, text string) {
	t.Helper()
	got, err := term.Of(e)
	if err != api.OK {
		t.Errorf("%s: error %d", what, err)
		return
	}
	want(t, what, got, text)
}

func wantNone(t *testing.T, what string, e ast.Expr, want api.Errno) {
	t.Helper()
	if got, err := term.Of(e); err != want || !term.Same(got, term.Term{}) {
		t.Errorf("%s: %.100s and error %d, want error %d", what, got, err, want)
	}
}

func TestOf(t *testing.T) { // P13.4
	for s, want := range map[string]string{
		// Each Op alone.
		"0": "0", "7": "7", nines: nines,
		"x": "1*x+0", "X_9": "1*X_9+0", "res": "1*res+0",
		"-x": "-1*x+0", "-res": "-1*res+0", "-7": "-7", "-0": "0",
		"x+y": "1*x+1*y+0", "y+x": "1*x+1*y+0", "x+res": "1*res+1*x+0", "x+x": "2*x+0", "x+1": "1*x+1", "1+2": "3",
		"x-y": "1*x+-1*y+0", "y-x": "-1*x+1*y+0", "x-x": "0", "x-1": "1*x+-1", "1-x": "-1*x+1", "1-2": "-1",
		"2*x": "2*x+0", "x*2": "2*x+0", "2*3": "6", "0*x": "0", "x*0": "0", "res*3": "3*res+0",
		// Of several.
		"2*(x-3)+y-x": "1*x+1*y+-6",
		"-(-x)":       "1*x+0", "-(-(-x))": "-1*x+0", "-(x-y)": "-1*x+1*y+0", "-(x+1)": "-1*x+-1",
		"x-(y-z)": "1*x+-1*y+1*z+0", "x-(y+z)": "1*x+-1*y+-1*z+0", "x-y-z": "1*x+-1*y+-1*z+0", "x-(y-(z-1))": "1*x+-1*y+1*z+-1", "x--y": "1*x+0",
		"x-(-y)": "1*x+1*y+0", "-x-(-(y-x))": "-2*x+1*y+0",
		"3*-x": "-3*x+0", "-3*x": "-3*x+0", "-3*-x": "3*x+0", "3*-(x-2)": "-3*x+6", "-(3*(x-2))": "-3*x+6",
		"2*3*x": "6*x+0", "2*x*3": "6*x+0", "x*2*3": "6*x+0", "2*(3*(x+1)+y)-1": "6*x+2*y+5",
		"x-2*(y-3*(z-1))": "1*x+-2*y+6*z+-6",
		"y+x*2+y-5":       "2*x+2*y+-5",
		"(1+2)*(x+y)":     "3*x+3*y+0", "(x+y)*(1-2)": "-1*x+-1*y+0", "(1-1)*x+7": "7", "(2-3)*(4-6)": "2",
		// Whether a kid has names, its term tells.
		"(x-x+2)*y": "2*y+0", "y*(x-x+2)": "2*y+0", "(x-x)*y*z": "0", "y*(z-z)*x": "0", "(0*x)*(y+1)": "0", "(x-x+2)*(y-y+3)": "6",
		"(x-x+1)*(y-y)*z+res": "1*res+0", "(2*x-x-x+1)*(x+y)": "1*x+1*y+0", "(res-res+2)*res": "2*res+0",
	} {
		wantOf(t, s, formulaOf(t, s), want)
	}
}

func TestNoTerm(t *testing.T) { // P13.4
	for _, s := range []string{
		"true", "false", "not true", "not x", "x/2", "4/2", "x/1", "x%2", "4%2", "x=y", "x<>y", "x<y", "x<=y", "x>y", "x>=y", "1=1", "x&&y", "x||y", "x=>y", "true&&true",
		"x*y", "x*x", "x*res", "res*res", "(x+1)*(y-1)", "(x+1)*(x+1)", "-(x*y)", "(2*x)*(3*y)", "2*x*y", "x*2*y", "x*(2*y)", "(x-x+1)*x*x", "x*y*0", "0*(x*y)", "(y-y)*(x*y)", "x*y-x*y",
	} {
		e := formulaOf(t, s)
		wantNone(t, s, e, api.ErrLinear)
		// Nor is there one of what it is in.
		for _, around := range []ast.Expr{op(ast.Neg, e), op(ast.Add, e, lit(1)), op(ast.Add, lit(1), e), op(ast.Sub, e, e), op(ast.Mul, e, lit(0)), op(ast.Mul, lit(0), e), op(ast.Mul, lit(2), op(ast.Sub, lit(1), op(ast.Neg, e)))} {
			wantNone(t, s+", inside", around, api.ErrLinear)
		}
	}
}

func TestNoFormula(t *testing.T) { // P13.4
	x := name("x")
	withName, withModule, withYes, withNum := x, x, x, x
	withName.Op, withModule.Module, withYes.Yes, withNum.Num = ast.Res, "m", true, zed.From(1)
	for i, e := range []ast.Expr{
		{}, {Op: -1}, {Op: 25}, {Op: ast.Call + 256},
		op(ast.If, yes, x, x), {Op: ast.Let, Name: "x", Kids: []ast.Expr{x, x}}, op(ast.Assert, yes, x), {Op: ast.Call, Name: "f"}, {Op: ast.Call, Name: "f", Kids: []ast.Expr{x}}, {Op: ast.If},
		lit(-1), {Op: ast.Lit, Num: number(nines).Add(zed.From(1))}, {Op: ast.Lit, Kids: []ast.Expr{x}}, {Op: ast.Lit, Name: "x"},
		name(""), name("res"), name("let"), name("x y"), name("_"), name("é"), name(strings.Repeat("x", api.MaxName+1)), {Op: ast.Var, Name: "x", Kids: []ast.Expr{x}},
		withName, withModule, withYes, withNum,
		op(ast.Res, x), op(ast.Neg), op(ast.Neg, x, x), op(ast.Add), op(ast.Add, x), op(ast.Sub, x), op(ast.Mul, x), op(ast.Mul, lit(1), lit(2), lit(3)), op(ast.Add, x, x, x), op(ast.Div, x), op(ast.Not),
	} {
		what := strconv.Itoa(i)
		wantNone(t, what, e, api.ErrForm)
		// ErrForm goes ahead of ErrLinear, wherever both stand.
		for _, around := range []ast.Expr{
			op(ast.Neg, e), op(ast.Add, x, e), op(ast.Sub, e, x), op(ast.Mul, lit(0), e), op(ast.Mul, e, lit(0)),
			op(ast.Mul, op(ast.Mul, x, x), e), op(ast.Add, op(ast.Div, x, lit(2)), e), op(ast.Not, e), op(ast.Lt, e, x), op(ast.And, yes, op(ast.Add, op(ast.Mul, x, x), e)),
		} {
			wantNone(t, what+", inside", around, api.ErrForm)
		}
	}
	wantOf(t, "At plays no part", ast.Expr{Op: ast.Add, At: -5, Kids: []ast.Expr{{Op: ast.Var, Name: "x", At: 77}, {Op: ast.Lit, At: 1 << 60}}}, "1*x+0")
	wantOf(t, "the greatest number, the longest name", op(ast.Mul, ast.Expr{Op: ast.Lit, Num: number(nines)}, name(strings.Repeat("x", api.MaxName))), nines+"*"+strings.Repeat("x", api.MaxName)+"+0")
}

func TestOfEachOp(t *testing.T) { // P13.4
	// With one, two and three kids that have terms, each Op has a term, has none, or is in no formula.
	linear := map[int]int{ast.Neg: 1, ast.Add: 2, ast.Sub: 2, ast.Mul: 2}
	for o := range 30 {
		for n := range 4 {
			e := op(o, slices.Repeat([]ast.Expr{lit(6)}, n)...)
			got, err := term.Of(e)
			want := api.ErrForm
			if _, bad := show.Formula(e); bad == api.OK {
				want = api.ErrLinear
			}
			if linear[o] == n && n > 0 || o == ast.Lit && n == 0 || o == ast.Res && n == 0 {
				want = api.OK
			}
			if err != want || err != api.OK && got.String() != "0" {
				t.Error(o, n, got, err)
			}
		}
	}
}

func TestNumbersBeyondLimits(t *testing.T) { // P13.4: a term's numbers have no limit
	e := lit(1)
	power := zed.From(1)
	for range 100 {
		e = op(ast.Mul, e, ast.Expr{Op: ast.Lit, Num: number(nines)})
		power = power.Mul(number(nines))
	}
	wantOf(t, "a power", e, power.String())
	wantOf(t, "so many times x", op(ast.Mul, e, op(ast.Sub, name("x"), e)), power.String()+"*x+"+power.Mul(power).Neg().String())
}

func TestDeepest(t *testing.T) { // P13.4: as deep as texts may be
	n := api.MaxDepth - 1
	wantOf(t, "parentheses", formulaOf(t, strings.Repeat("(", n)+"x"+strings.Repeat(")", n)), "1*x+0")
	wantOf(t, "taken away", formulaOf(t, strings.Repeat("y-(", n)+"x"+strings.Repeat(")", n)), "-1*x+1*y+0")
	two, _ := zed.Pow(zed.From(2), n)
	wantOf(t, "doubled", formulaOf(t, strings.Repeat("2*(", n)+"x"+strings.Repeat(")", n)), two.String()+"*x+0")
	wantOf(t, "a long sum", formulaOf(t, strings.Repeat("x+", 20000)+"1"), "20000*x+1")
}

// deep is so many expressions in each other, and one in the middle.
func deep(n int, e ast.Expr, around func(e ast.Expr) ast.Expr) ast.Expr {
	for range n {
		e = around(e)
	}
	return e
}

func TestDeepExpressions(t *testing.T) { // P1, P13.4
	defer debug.SetMaxStack(debug.SetMaxStack(1 << 20))
	const n = 50000
	x, y := name("x"), name("y")
	for what, l := range map[string]struct {
		around func(e ast.Expr) ast.Expr
		want   string
	}{
		"neg":       {func(e ast.Expr) ast.Expr { return op(ast.Neg, e) }, "1*x+0"},
		"add left":  {func(e ast.Expr) ast.Expr { return op(ast.Add, e, y) }, "1*x+50000*y+0"},
		"add right": {func(e ast.Expr) ast.Expr { return op(ast.Add, lit(2), e) }, "1*x+100000"},
		"sub left":  {func(e ast.Expr) ast.Expr { return op(ast.Sub, e, y) }, "1*x+-50000*y+0"},
		"sub right": {func(e ast.Expr) ast.Expr { return op(ast.Sub, y, e) }, "1*x+0"},
		"mul left":  {func(e ast.Expr) ast.Expr { return op(ast.Mul, e, lit(1)) }, "1*x+0"},
		"mul right": {func(e ast.Expr) ast.Expr { return op(ast.Mul, op(ast.Neg, lit(1)), e) }, "1*x+0"},
		"both":      {func(e ast.Expr) ast.Expr { return op(ast.Sub, op(ast.Mul, lit(1), op(ast.Neg, e)), lit(1)) }, "1*x+0"},
	} {
		wantOf(t, what, deep(n, x, l.around), l.want)
		wantNone(t, what+" of a truth", deep(n, yes, l.around), api.ErrLinear)
		wantNone(t, what+" of nothing", deep(n, ast.Expr{}, l.around), api.ErrForm)
	}
	wantNone(t, "truths", deep(n, x, func(e ast.Expr) ast.Expr { return op(ast.Not, e) }), api.ErrLinear)
	at := 0
	sum := deep(n, lit(1), func(e ast.Expr) ast.Expr {
		at++
		return op(ast.Sub, name("n"+strconv.Itoa(at)), e)
	})
	if u, err := term.Of(sum); err != api.OK || len(u.Names()) != n || u.Rest().String() != "1" || u.Factor("n1").String() != "-1" || u.Factor("n2").String() != "1" {
		t.Error("many names:", len(u.Names()), err)
	}
}

func TestEndlessExpressions(t *testing.T) { // P1, P13.4
	for _, o := range []int{ast.Neg, ast.Add, ast.Sub, ast.Mul, ast.Lt} {
		kids := slices.Repeat([]ast.Expr{lit(0)}, 2)
		if o == ast.Neg {
			kids = kids[:1]
		}
		for at := range kids {
			kids[at] = op(o, kids...)
			wantNone(t, "endless", kids[at], api.ErrForm)
			wantNone(t, "endless", op(ast.Mul, op(ast.Mul, res, res), kids[at]), api.ErrForm)
		}
	}
	// Kids that stand in several places are fine.
	sum := op(ast.Add, name("x"), lit(1))
	twice := []ast.Expr{sum, sum}
	wantOf(t, "shared", op(ast.Sub, op(ast.Add, twice...), op(ast.Mul, lit(3), sum)), "-1*x+-1")
}

func TestExpressionsStay(t *testing.T) { // P13.4: nothing is changed or kept
	long := "alphabeta"
	kids := append(make([]ast.Expr, 0, 9), op(ast.Mul, lit(2), name(long[:5])), op(ast.Neg, name(long[5:])))
	e := op(ast.Sub, kids...)
	dump := e.Dump()
	u, _ := term.Of(e)
	want(t, "the term", u, "2*alpha+1*beta+0")
	if e.Dump() != dump || kids[:3][2].Op != 0 {
		t.Error("changed:", e.Dump(), kids[:3][2])
	}
	for _, s := range u.Names() {
		if within(s, long) {
			t.Errorf("%q shares memory", s)
		}
	}
	kids[0].Kids[1], kids[1].Kids[0] = name("z"), lit(9)
	want(t, "the term", u, "2*alpha+1*beta+0")
}
