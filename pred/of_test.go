package pred_test

import (
	"runtime/debug"
	"slices"
	"strconv"
	"strings"
	"testing"

	"touchstone/api"
	"touchstone/ast"
	"touchstone/bag"
	"touchstone/parse"
	"touchstone/pred"
	"touchstone/show"
	"touchstone/zed"
)

// formulaOf is the expression of a formula.
func formulaOf(t *testing.T, s string) ast.Expr {
	t.Helper()
	x, f := parse.Formula(s, api.MaxDepth)
	if f.E != api.OK {
		t.Fatalf("%.200q: %v", s, f)
	}
	out, e := ast.FormulaOf(x)
	if e != api.OK {
		t.Fatalf("%.200q: error %d", s, e)
	}
	return out
}

// These make expressions.

func name(s string) ast.Expr { return ast.Expr{Op: ast.Var, Name: s} }

func lit(n int) ast.Expr { return ast.Expr{Op: ast.Lit, Num: zed.From(n)} }

func op(op int, kids ...ast.Expr) ast.Expr { return ast.Expr{Op: op, Kids: kids} }

var (
	res = ast.Expr{Op: ast.Res}
	yes = ast.Expr{Op: ast.Truth, Yes: true}
)

// wantOf holds a formula's predicate, with some flags, against its text.
func wantOf(t *testing.T, s, flags, text string) {
	t.Helper()
	got, e := pred.Of(formulaOf(t, s), bag.Of(strings.Fields(flags)...))
	want(t, s+" with the flags "+flags, got, e, text)
}

func wantNone(t *testing.T, s, flags string, want api.Errno) {
	t.Helper()
	got, e := pred.Of(formulaOf(t, s), bag.Of(strings.Fields(flags)...))
	wantError(t, s+" with the flags "+flags, got, e, want)
}

func TestOf(t *testing.T) { // P14.4
	for s, text := range map[string]string{
		// Each Op.
		"true": "T", "false": "F", "p": "?p", "not p": "!?p", "p&&q": "&(?p,?q)", "p||q": "|(?p,?q)", "p=>q": "|(!?p,?q)", "q=>p": "|(!?q,?p)",
		"x<y": "(1*x+-1*y+1<=0)", "x<=y": "(1*x+-1*y+0<=0)", "x>y": "(-1*x+1*y+1<=0)", "x>=y": "(-1*x+1*y+0<=0)", "x=y": "(1*x+-1*y+0=0)", "x<>y": "!(1*x+-1*y+0=0)",
		"y<x": "(-1*x+1*y+1<=0)", "y=x": "(-1*x+1*y+0=0)", "y<>x": "!(-1*x+1*y+0=0)",
		"p=q": "&(|(!?p,?q),|(!?q,?p))", "p<>q": "!&(|(!?p,?q),|(!?q,?p))",
		// Numbers.
		"1<2": "(0<=0)", "2<=1": "(1<=0)", "1>2": "(2<=0)", "1>=2": "(1<=0)", "3=3": "(0=0)", "3<>2": "!(1=0)", "0=res": "(-1*res+0=0)", "res<0": "(1*res+1<=0)",
		"2*(x-3)+y<4-x": "(3*x+1*y+-9<=0)", "-x>=-(y-res)": "(1*res+1*x+-1*y+0<=0)", "x-x<=y-y": "(0<=0)", "(x-x+2)*y=7": "(2*y+-7=0)",
		// Of several.
		"true&&not false": "&(T,!F)", "p&&q&&r": "&(&(?p,?q),?r)", "p&&(q&&r)": "&(?p,&(?q,?r))", "p||q||r": "|(|(?p,?q),?r)", "p=>q=>r": "|(!?p,|(!?q,?r))", "(p=>q)=>r": "|(!|(!?p,?q),?r)", "not not p": "!!?p",
		"p||q&&x<1=>not r||true": "|(!|(?p,&(?q,(1*x+0<=0))),|(!?r,T))", "not(x<>1)": "!!(1*x+-1=0)",
		// An Eq or Ne is of truths, if its first kid is one.
		"true=p": "&(|(!T,?p),|(!?p,T))", "p=true": "&(|(!?p,T),|(!T,?p))", "false<>false": "!&(|(!F,F),|(!F,F))", "(not p)=q": "&(|(!!?p,?q),|(!?q,!?p))",
		"(p&&q)=r": "&(|(!&(?p,?q),?r),|(!?r,&(?p,?q)))", "(p||q)<>r": "!&(|(!|(?p,?q),?r),|(!?r,|(?p,?q)))", "(p=>q)=r": "&(|(!|(!?p,?q),?r),|(!?r,|(!?p,?q)))",
		"(x<1)=p": "&(|(!(1*x+0<=0),?p),|(!?p,(1*x+0<=0)))", "(x<=1)=p": "&(|(!(1*x+-1<=0),?p),|(!?p,(1*x+-1<=0)))", "(x>1)=p": "&(|(!(-1*x+2<=0),?p),|(!?p,(-1*x+2<=0)))", "(x>=1)=p": "&(|(!(-1*x+1<=0),?p),|(!?p,(-1*x+1<=0)))",
		"(x=1)=p": "&(|(!(1*x+-1=0),?p),|(!?p,(1*x+-1=0)))", "(x<>1)=p": "&(|(!!(1*x+-1=0),?p),|(!?p,!(1*x+-1=0)))", "p=(x=1)": "&(|(!?p,(1*x+-1=0)),|(!(1*x+-1=0),?p))",
		"(p=q)=r":  "&(|(!&(|(!?p,?q),|(!?q,?p)),?r),|(!?r,&(|(!?p,?q),|(!?q,?p))))",
		"p=(q<>r)": "&(|(!?p,!&(|(!?q,?r),|(!?r,?q))),|(!!&(|(!?q,?r),|(!?r,?q)),?p))",
		"(x)=(y)":  "(1*x+-1*y+0=0)",
	} {
		wantOf(t, s, "p q r", text)
	}
}

func TestResult(t *testing.T) { // P14.4
	wantOf(t, "res", "res", "?res")
	wantOf(t, "not res", "a res z", "!?res")
	wantOf(t, "res=(x<res2)", "res", "&(|(!?res,(-1*res2+1*x+1<=0)),|(!(-1*res2+1*x+1<=0),?res))")
	wantOf(t, "res<>p", "res p", "!&(|(!?res,?p),|(!?p,?res))")
	wantOf(t, "res=1", "", "(1*res+-1=0)")
	wantOf(t, "res2&&x=res", "res2", "&(?res2,(-1*res+1*x+0=0))")
	wantNone(t, "res", "", api.ErrType)
	wantNone(t, "res", "x p ress Res", api.ErrType)
	wantNone(t, "res=1", "res", api.ErrType)
	wantNone(t, "1=res", "res", api.ErrType)
	wantNone(t, "x+res<1", "res", api.ErrType)
	wantNone(t, "res&&true", "p", api.ErrType)
}

func TestWrongTypes(t *testing.T) { // P14.4
	// Where a truth must be.
	for _, number := range []string{"x", "1", "res", "-x", "x+1", "x-y", "2*x", "x*y", "x/2", "x%2", "-p", "p+q"} {
		for _, around := range []string{"_", "not _", "_&&p", "p&&_", "_||p", "p||_", "_=>p", "p=>_", "true=_", "p=_", "(x<1)<>_", "not(p=>(q||_))", "(_&&p)=p", "p=(p=(_||p))"} {
			wantNone(t, strings.ReplaceAll(around, "_", "("+number+")"), "p q", api.ErrType)
		}
	}
	// Where a number must be.
	for _, truth := range []string{"p", "true", "false", "not p", "x=1", "x<>1", "x<1", "x<=1", "x>1", "x>=1", "p&&p", "p||p", "p=>p"} {
		for _, around := range []string{"_<1", "1<_", "_<=1", "1<=_", "_>1", "1>_", "_>=1", "1>=_", "1=_", "x<>_", "-_=1", "_+1=1", "1+_=1", "_-1<1", "1-_<1", "2*_<1", "_*2<1", "0*_<1", "_-_<1", "_/2<1", "2/_<1", "_%2<1", "2%_=1", "x<-(1+2*_)", "x*_<1", "_*x<1", "p&&1<_"} {
			wantNone(t, strings.ReplaceAll(around, "_", "("+truth+")"), "p q", api.ErrType)
		}
	}
	for _, s := range []string{"p=1", "true=x", "(x<1)=x", "(x=1)=1", "(not p)<>x", "p<>x+1", "x=p", "1=true", "x+1=(x<1)", "-x=p", "p<p", "true<=false"} {
		wantNone(t, s, "p", api.ErrType)
	}
	// Without flags a Var is a number.
	wantNone(t, "p&&x<1", "", api.ErrType)
	wantNone(t, "p", "P pp", api.ErrType)
	wantOf(t, "p=q", "", "(1*p+-1*q+0=0)")
	wantNone(t, "p=q", "p", api.ErrType)
	wantNone(t, "p=q", "q", api.ErrType)
}

func TestNoTerm(t *testing.T) { // P14.4
	for _, number := range []string{"x*y", "x*x", "res*x", "x/2", "4/2", "x%2", "7%7", "-(x*y)", "x*y-x*y", "1+x/2", "0*(x*y)", "2*x*y", "(x+1)*(y-1)"} {
		for _, around := range []string{"_<1", "1<_", "_<=1", "1<=_", "_>1", "1>_", "_>=1", "1>=_", "_=1", "1=_", "_<>1", "1<>_", "not _<1", "p&&_=1", "_=1=>p", "p=(_=1)", "(_=1)=p", "1+_<x", "x<2*_", "x<-_"} {
			wantNone(t, strings.ReplaceAll(around, "_", "("+number+")"), "p", api.ErrLinear)
		}
	}
}

func TestFirstOfErrors(t *testing.T) { // P14.4
	// That of the first expression, from the left, in which one is told, is the answer.
	linear, types := []string{"x*y<1", "1=x/2", "p=(x%2<1)", "not x*x<>2"}, []string{"x", "p<1", "1+p=2", "p=1", "not 7", "1=p"}
	for _, a := range linear {
		for _, b := range types {
			for _, around := range []string{"_&&~", "_||~", "_=>~", "(_)=(~)", "(_)<>(~)", "not _&&~", "p=>((_)=p)=>(~)", "p&&_&&p&&~"} {
				fill := func(first, second string) string {
					return strings.NewReplacer("_", "("+first+")", "~", "("+second+")").Replace(around)
				}
				wantNone(t, fill(a, b), "p", api.ErrLinear)
				// An Eq or Ne whose first kid is no truth is of numbers.
				wantNone(t, fill(b, a), "p", api.ErrType)
			}
		}
	}
	for s, want := range map[string]api.Errno{
		// Of two numbers.
		"x*y<p": api.ErrLinear, "p<x*y": api.ErrType, "x/2=p": api.ErrLinear, "1<p&&x*y=1": api.ErrType, "x%2>=(x<1)": api.ErrLinear, "1+p>=x*y": api.ErrType,
		// In one number.
		"x*y+p<1": api.ErrLinear, "p+x*y<1": api.ErrType, "1<x/2-p": api.ErrLinear, "1<p-x/2": api.ErrType, "-(x*y)*p<1": api.ErrLinear, "(p+1)*(x*y)<1": api.ErrType,
		"(x*y+1)*(2+p)=0": api.ErrLinear, "(2+p)*(x*y+1)=0": api.ErrType, "1+(x+2*(y+x/2)+(z-p))=0": api.ErrLinear, "1+(x+2*(y+x)+(z-p))/2=0": api.ErrType, "x+(p+x/2)=0": api.ErrType,
		// What is in an expression is told ahead of it.
		"x*p<1": api.ErrType, "p*x<1": api.ErrType, "p/2<1": api.ErrType, "2%p<1": api.ErrType, "(x*y)/p<1": api.ErrLinear, "p/(x*y)<1": api.ErrType, "(x+y)*(x+p)<1": api.ErrType,
		// What may not be there at all isn't looked into.
		"1+(x*y<1)<2": api.ErrType, "x*y": api.ErrType, "p&&x/2": api.ErrType, "(x*y+1)&&p": api.ErrType,
	} {
		wantNone(t, s, "p", want)
	}
}

// formulaWith is the text of a formula, in parentheses, whose predicate has so many in it.
func formulaWith(size int) string {
	s := "(p" + strings.Repeat("||p", (size-1)/2) + ")"
	if size%2 == 0 {
		s = "(not" + s + ")"
	}
	return s
}

func TestFullInItsPlace(t *testing.T) { // P14.4
	const n = api.MaxAtoms
	// The first of two has as many as may be, by each way that makes more; the second one has more.
	for i, l := range [][2]string{
		{"not" + formulaWith(n-1), "not" + formulaWith(n)},
		{"p&&" + formulaWith(n-2), "p&&" + formulaWith(n-1)},
		{formulaWith(n-50) + "||" + formulaWith(49), formulaWith(n-50) + "||" + formulaWith(50)},
		{formulaWith(n-3) + "=>p", formulaWith(n-2) + "=>p"},
		{"p=" + formulaWith(n/2-4), "p=" + formulaWith(n/2-3)},
		{formulaWith(n/4-2) + "<>" + formulaWith(n/4-1), formulaWith(n/4-1) + "<>" + formulaWith(n/4-1)},
	} {
		for around, want := range map[string]api.Errno{
			"_": api.OK, "_&&1": api.ErrType, "_&&x": api.ErrType, "_||x*x<1": api.ErrLinear, "_=>1+p<x/2": api.ErrType, "_=x": api.ErrType, "_<>(x%2=1)": api.ErrLinear, "true&&(_||x)": api.ErrType, "not(p=>(_&&p<1))": api.ErrType, "_&&x*x<1&&1": api.ErrLinear,
		} {
			_, e := pred.Of(formulaOf(t, strings.ReplaceAll(around, "_", "("+l[0]+")")), bag.Of("p"))
			if e != want {
				t.Errorf("%d in %s: error %d, want error %d", i, around, e, want)
			}
			wantNone(t, strings.ReplaceAll(around, "_", "("+l[1]+")"), "p", api.ErrFull)
		}
		for around, want := range map[string]api.Errno{
			// What stands ahead of it is told first.
			"1&&_": api.ErrType, "x||_": api.ErrType, "x*x<1&&_": api.ErrLinear, "x/2=p=>_": api.ErrLinear, "p&&(p||x)&&_": api.ErrType, "p=(1=p||_)": api.ErrType,
			// Where a number must be it isn't looked into.
			"1=_": api.ErrType, "_<x*x": api.ErrType, "x*x<_": api.ErrLinear,
		} {
			wantNone(t, strings.ReplaceAll(around, "_", "("+l[1]+")"), "p", want)
		}
	}
	many := strings.Repeat("p&&", 4096)
	for s, want := range map[string]api.Errno{"p": api.ErrFull, "x": api.ErrType, "x*x<1": api.ErrLinear, "x*x<p": api.ErrLinear} {
		wantNone(t, many+s, "p", api.ErrFull)
		wantNone(t, s+strings.Repeat("&&p", 4096), "p", want)
	}
}

func TestOfAtTheLimit(t *testing.T) { // P14.4
	half := strings.Repeat("p||", api.MaxAtoms/2-1) + "p"
	whole, e := pred.Of(formulaOf(t, "not("+half+")"), bag.Of("p"))
	if e != api.OK || whole.String() != "!"+strings.Repeat("|(", api.MaxAtoms/2-1)+"?p"+strings.Repeat(",?p)", api.MaxAtoms/2-1) || pred.Deny(whole).Right() {
		t.Error("a full one:", e)
	}
	wantNone(t, "not not("+half+")", "p", api.ErrFull)
	wantNone(t, "not("+half+"||p)", "p", api.ErrFull)
	wantNone(t, half+"||p", "p", api.ErrFull)
	// An Eq of truths has both of its kids twice, and five more: here 1025 and 4 for each q.
	part := strings.Repeat("p&&", 255) + "p"
	for flags, want := range map[int]api.Errno{766: api.OK, 767: api.OK, 768: api.ErrFull, 769: api.ErrFull} {
		other := strings.Repeat("q&&", flags-1) + "q"
		for _, s := range []string{"(" + part + ")=(" + other + ")", "(" + other + ")=(" + part + ")", "(" + part + ")<>(" + other + ")", "not not not((" + part + ")=(" + other + "))"} {
			p, e := pred.Of(formulaOf(t, s), bag.Of("p", "q"))
			if e != want || (e == api.OK) != p.Right() {
				t.Errorf("%d and %.9s: error %d", flags, s, e)
			}
		}
	}
	wantNone(t, "not not not not(("+part+")=("+strings.Repeat("q&&", 766)+"q))", "p q", api.ErrFull)
}

func TestEqsInEqs(t *testing.T) { // P14.4: each has its kids twice
	left, right := "p", "p"
	for n := range 12 {
		_, e := pred.Of(formulaOf(t, left), bag.Of("p"))
		_, other := pred.Of(formulaOf(t, right), bag.Of("p"))
		// There are 8 * 2^n - 7.
		if full := n > 9; (e == api.ErrFull) != full || (other == api.ErrFull) != full || !full && (e != api.OK || other != api.OK) {
			t.Error(n, e, other)
		}
		left, right = "("+left+")=p", "p=("+right+")"
	}
	for range 180 {
		left, right = "("+left+")<>p", "p=("+right+")"
	}
	wantNone(t, left, "p", api.ErrFull)
	wantNone(t, right, "p", api.ErrFull)
	wantNone(t, "("+left+")&&x", "p", api.ErrFull)
	wantNone(t, "("+right+")&&x/2=1", "p", api.ErrFull)
	wantNone(t, "x&&("+left+")", "p", api.ErrType)
	wantNone(t, "x/2=1&&("+right+")", "p", api.ErrLinear)
}

func TestNoFormula(t *testing.T) { // P14.4
	x, p := name("x"), name("p")
	withName, withModule, withYes, withNum := p, p, p, p
	withName.Op, withModule.Module, withYes.Yes, withNum.Num = ast.Res, "m", true, zed.From(1)
	for i, e := range []ast.Expr{
		{}, {Op: -1}, {Op: 25}, {Op: ast.Call + 256},
		op(ast.If, yes, p, p), {Op: ast.Let, Name: "x", Kids: []ast.Expr{p, p}}, op(ast.Assert, yes, p), {Op: ast.Call, Name: "f"}, {Op: ast.If},
		lit(-1), {Op: ast.Lit, Kids: []ast.Expr{x}}, {Op: ast.Truth, Kids: []ast.Expr{x}}, {Op: ast.Truth, Name: "p"}, {Op: ast.Truth, Num: zed.From(1)},
		name(""), name("res"), name("let"), name("x y"), name("_"), name("é"), name(strings.Repeat("x", api.MaxName+1)), {Op: ast.Var, Name: "p", Kids: []ast.Expr{p}},
		withName, withModule, withYes, withNum,
		op(ast.Res, p), op(ast.Not), op(ast.Not, p, p), op(ast.And), op(ast.And, p), op(ast.Or, p, p, p), op(ast.Imp, p), op(ast.Eq), op(ast.Eq, x), op(ast.Ne, x, x, x), op(ast.Lt), op(ast.Le, x), op(ast.Gt, x, x, x), op(ast.Ge), op(ast.Neg), op(ast.Add, x),
	} {
		// ErrForm goes ahead of all, wherever it stands.
		for j, whole := range []ast.Expr{
			e, op(ast.Not, e), op(ast.And, yes, e), op(ast.And, e, yes), op(ast.And, x, e), op(ast.And, op(ast.Lt, op(ast.Mul, x, x), x), e), op(ast.Lt, e, x), op(ast.Lt, x, e), op(ast.Eq, p, e), op(ast.Eq, e, p), op(ast.Eq, lit(0), op(ast.Neg, e)), op(ast.Lt, p, op(ast.Add, x, e)),
		} {
			got, err := pred.Of(whole, bag.Of("p", "", "res", "let", "x y", "_"))
			wantError(t, "form "+strconv.Itoa(i)+", "+strconv.Itoa(j), got, err, api.ErrForm)
		}
	}
	got, err := pred.Of(ast.Expr{Op: ast.And, At: -5, Kids: []ast.Expr{{Op: ast.Var, Name: "p", At: 77}, {Op: ast.Truth, At: 1 << 60}}}, bag.Of("p"))
	want(t, "At plays no part", got, err, "&(?p,F)")
}

func TestOfEachOp(t *testing.T) { // P14.4
	// With up to three kids of each base, each Op has a predicate, has none, or is in no formula.
	truths := map[int]int{ast.Not: 1, ast.And: 2, ast.Or: 2, ast.Imp: 2, ast.Eq: 2, ast.Ne: 2}
	for o := range 30 {
		for n := range 4 {
			ofTruths, ofNumbers := op(o, slices.Repeat([]ast.Expr{yes}, n)...), op(o, slices.Repeat([]ast.Expr{lit(6)}, n)...)
			for e, fine := range map[*ast.Expr]bool{
				&ofTruths:  o == ast.Truth && n == 0 || truths[o] == n && n > 0,
				&ofNumbers: o == ast.Truth && n == 0 || o >= ast.Eq && o <= ast.Ge && n == 2,
			} {
				want := api.ErrForm
				if _, bad := show.Formula(*e); bad == api.OK {
					want = api.ErrType
				}
				if fine {
					want = api.OK
				}
				if _, err := pred.Of(*e, bag.Set[string]{}); err != want {
					t.Error(o, n, err, want)
				}
			}
		}
	}
}

func TestDeepExpressions(t *testing.T) { // P1, P14.4
	defer debug.SetMaxStack(debug.SetMaxStack(1 << 20))
	around := func(n int, e ast.Expr, o int, second ...ast.Expr) ast.Expr {
		for range n {
			e = op(o, append([]ast.Expr{e}, second...)...)
		}
		return e
	}
	ahead := func(n int, e ast.Expr, o int, first ast.Expr) ast.Expr {
		for range n {
			e = op(o, first, e)
		}
		return e
	}
	const n = 50000
	p, x, flags := name("p"), name("x"), bag.Of("p")
	for what, l := range map[string]struct {
		e    ast.Expr
		want api.Errno
	}{
		"nots": {around(n, p, ast.Not), api.ErrFull}, "nots of a number": {around(n, x, ast.Not), api.ErrType},
		"ands": {around(n, p, ast.And, yes), api.ErrFull}, "ands behind": {ahead(n, p, ast.And, yes), api.ErrFull}, "imps behind": {ahead(n, p, ast.Imp, yes), api.ErrFull}, "ors of a number": {ahead(n, x, ast.Or, yes), api.ErrType},
		"eqs": {around(n, p, ast.Eq, yes), api.ErrFull}, "nes behind": {ahead(n, p, ast.Ne, p), api.ErrFull}, "eqs of a number": {ahead(n, x, ast.Eq, yes), api.ErrType},
		"a sum": {op(ast.Lt, around(n, x, ast.Add, lit(1)), x), api.OK}, "a sum behind": {op(ast.Eq, x, ahead(n, x, ast.Sub, lit(1))), api.OK},
		"a sum of a truth": {op(ast.Lt, around(n, p, ast.Add, lit(1)), x), api.ErrType}, "a sum of a truth behind": {op(ast.Lt, x, ahead(n, p, ast.Add, lit(1))), api.ErrType}, "a sum with no term ahead": {op(ast.Lt, x, ahead(n, p, ast.Add, op(ast.Div, x, x))), api.ErrLinear},
		"a product":  {op(ast.Lt, around(n, x, ast.Mul, x), x), api.ErrLinear},
		"no formula": {around(n, ast.Expr{}, ast.Not), api.ErrForm},
	} {
		if got, e := pred.Of(l.e, flags); e != l.want || (e == api.OK) != got.Right() {
			t.Error(what, e)
		}
	}
	got, e := pred.Of(around(api.MaxAtoms-1, p, ast.Not), flags)
	if e != api.OK || got.String() != strings.Repeat("!", api.MaxAtoms-1)+"?p" {
		t.Error("as deep as may be:", e)
	}
	got, e = pred.Of(op(ast.Ge, around(n, x, ast.Add, x), x), flags)
	want(t, "a long sum", got, e, "(-50000*x+0<=0)")
}

func TestEndlessExpressions(t *testing.T) { // P1, P14.4
	for _, o := range []int{ast.Not, ast.And, ast.Or, ast.Imp, ast.Eq, ast.Lt, ast.Add} {
		kids := []ast.Expr{yes, yes}
		if o == ast.Not {
			kids = kids[:1]
		}
		for at := range kids {
			kids[at] = op(o, kids...)
			got, e := pred.Of(kids[at], bag.Of("p"))
			wantError(t, "endless", got, e, api.ErrForm)
		}
	}
}

func TestExpressionsStay(t *testing.T) { // P14.4: nothing is changed or kept
	long := "alphabeta"
	kids := append(make([]ast.Expr, 0, 9), op(ast.Eq, name(long[:5]), op(ast.Lt, name("x"), name("y"))), name(long[5:]))
	e := op(ast.And, kids...)
	dump, items := e.Dump(), []string{long[:5], long[5:]}
	flags := bag.Of(items...)
	p, err := pred.Of(e, flags)
	text := "&(&(|(!?alpha,(1*x+-1*y+1<=0)),|(!(1*x+-1*y+1<=0),?alpha)),?beta)"
	want(t, "the predicate", p, err, text)
	if e.Dump() != dump || kids[:3][2].Op != 0 {
		t.Error("changed:", e.Dump(), kids[:3][2])
	}
	again, _ := pred.Of(e, flags)
	wantAlone(t, "Of", p, again)
	for _, s := range names(p) {
		if within(s, long) {
			t.Errorf("%q shares memory", s)
		}
	}
	kids[0], kids[1] = yes, yes
	want(t, "the predicate", p, err, text)
}
