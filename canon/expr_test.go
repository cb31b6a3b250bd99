package canon_test

import (
	"strings"
	"testing"
	"unsafe"

	"touchstone/api"
	"touchstone/ast"
	"touchstone/bag"
	"touchstone/canon"
	"touchstone/parse"
	"touchstone/pred"
	"touchstone/show"
	"touchstone/term"
	"touchstone/zed"
)

func TestExpr(t *testing.T) { // P15.2
	for s, formula := range map[string]string{
		"T": "true", "F": "false", "?p": "p", "?res": "res", "!?p": "not p", "!!?p": "not not p", "!T": "not true", "!&(?p,?q)": "not(p&&q)",
		// It isn't made normal.
		"&()": "true", "|()": "false", "&(?p)": "p", "|(?p)": "p", "&(T)": "true", "|(F)": "false", "&(|(&(?p)))": "p", "!|()": "not false", "&(&())": "true", "&(|())": "false",
		"&(?q,?p)": "q&&p", "|(?q,?p)": "q||p", "&(?p,?p,T)": "p&&p&&true", "|(F,?b,!?c,?a)": "false||b||not c||a", "&(?a,&(?b,?c))": "a&&(b&&c)", "&(&(?a,?b),?c)": "a&&b&&c", "|(?a,|(?b,?c),|(?d,?e))": "a||(b||c)||(d||e)",
		"&(|(?a,?b),?c,|())": "(a||b)&&c&&false", "|(&(?a,?b),?c,&())": "a&&b||c||true", "!&(!?a,|(?b,(1*x+0<=0)))": "not(not a&&(b||x<=0))",
		// Le and Eq.
		"(0<=0)": "0<=0", "(7<=0)": "7<=0", "(-7<=0)": "0<=7", "(0=0)": "0=0", "(7=0)": "7=0", "(-7=0)": "0=7",
		"(1*x+0<=0)": "x<=0", "(-1*x+0<=0)": "0<=x", "(1*x+3<=0)": "x+3<=0", "(1*x+-3<=0)": "x<=3", "(-1*x+3<=0)": "3<=x", "(-1*x+-3<=0)": "0<=x+3",
		"(1*x+0=0)": "x=0", "(-1*x+0=0)": "0=x", "(1*x+3=0)": "x+3=0", "(1*x+-3=0)": "x=3", "(-1*x+3=0)": "3=x", "(-1*x+-3=0)": "0=x+3",
		"(2*x+0<=0)": "2*x<=0", "(-2*x+0<=0)": "0<=2*x", "(2*x+1=0)": "2*x+1=0", "(-4*x+6=0)": "6=4*x", "(1*x+1<=0)": "x+1<=0", "(1*x+-1<=0)": "x<=1",
		"(-1*x+2*y+4<=0)": "2*y+4<=x", "(1*a+-2*b+3*c+-4*d+5<=0)": "a+3*c+5<=2*b+4*d", "(1*a+-2*b+3*c+-4*d+-5=0)": "a+3*c=2*b+4*d+5", "(-1*a+-1*b+-1*c+-1<=0)": "0<=a+b+c+1", "(1*c+1*b+1*a+1*B+2<=0)": "B+a+b+c+2<=0",
		"(1*res+-1*x+0<=0)": "res<=x", "(-3*res+1*q+1*z+0<=0)": "q+z<=3*res", "(1*x10+-1*x2+0=0)": "x10=x2",
		"&((1*res+0=0),?q)": "res=0&&q", "&((1*p+0=0),?p)": "p=0&&p",
	} {
		got, e := canon.Expr(made(s))
		if want := formulaOf(t, formula); e != api.OK || got.Dump() != want.Dump() {
			t.Errorf("%s: got %s and error %d, want %s", s, got.Dump(), e, want.Dump())
		}
		if text, e := show.Formula(got); e != api.OK || !placeless(got) {
			t.Errorf("%s: %q and error %d", s, text, e)
		}
	}
}

// placeless tells whether no expression has a place.
func placeless(e ast.Expr) bool {
	for _, kid := range e.Kids {
		if !placeless(kid) {
			return false
		}
	}
	return e.At == 0
}

func TestExprOfNames(t *testing.T) { // P15.2
	long := strings.Repeat("w", api.MaxName)
	for _, name := range []string{"", "x y", " x", "x.y", "_x", "9", "9x", "é", "\xff", "x;", "let", "int", "bool", "true", "false", "not", "fun", "if", "assert", long + "w"} {
		for what, p := range map[string]pred.Pred{
			"a flag": flag(name), "a Not": pred.Deny(flag(name)), "a Le": atMost(term.Name(name)), "an Eq": zero(term.Name("x").Minus(term.Name(name))), "a part": pred.All(flag("p"), pred.Any(flag("q"), zero(term.Name(name).Times(zed.From(-3)))), pred.Pred{Kind: pred.Yes}),
			// It goes ahead of a number that is too long.
			"two faults": pred.All(atMost(term.Name("x").Plus(term.Num(number("1"+strings.Repeat("0", 60))))), atMost(term.Name(name))),
			"two kinds":  pred.All(flag("x"), pred.Any(atMost(term.Name("x")), zero(term.Name(name).Plus(term.Name("y"))))),
		} {
			if x, e := canon.Expr(p); e != api.ErrForm || x.Dump() != (ast.Expr{}).Dump() {
				t.Errorf("%s of %q: %s and error %d", what, name, x.Dump(), e)
			}
			if s, e := canon.Show(p); e != api.ErrForm || s != "" {
				t.Errorf("%s of %q: %q and error %d", what, name, s, e)
			}
		}
	}
	for _, name := range []string{"x", "Let", "res2", "Res", "x_9", long} {
		want := ast.Expr{Op: ast.Var, Name: name}
		if x, e := canon.Expr(flag(name)); e != api.OK || x.Dump() != want.Dump() {
			t.Error(name, x.Dump(), e)
		}
		if s, e := canon.Show(atMost(term.Name(name))); e != api.OK || s != name+" <= 0" {
			t.Error(name, s, e)
		}
	}
}

func TestExprOfNumbers(t *testing.T) { // P15.2
	nines, more := strings.Repeat("9", api.MaxDigits), "1"+strings.Repeat("0", api.MaxDigits)
	for _, l := range [][2]string{
		{"(" + nines + "*x+-" + nines + "<=0)", nines + "*x<=" + nines}, {"(-" + nines + "*x+" + nines + "=0)", nines + "=" + nines + "*x"}, {"(" + nines + "<=0)", nines + "<=0"}, {"(-" + nines + "=0)", "0=" + nines}, {"&(?p,(-" + nines + "*x+1*y+0<=0))", "p&&y<=" + nines + "*x"},
	} {
		x, e := canon.Expr(made(l[0]))
		if want := formulaOf(t, l[1]); e != api.OK || x.Dump() != want.Dump() {
			t.Errorf("%s: %s and error %d", l[0], x.Dump(), e)
		}
	}
	for _, s := range []string{
		"(" + more + "*x+0<=0)", "(-" + more + "*x+0<=0)", "(1*x+" + more + "<=0)", "(1*x+-" + more + "<=0)", "(" + more + "=0)", "(-" + more + "=0)", "(1*w+1*x+" + more + "*y+1*z+3=0)", "!(" + more + "*x+0=0)", "&(?p,|(?q,!(1*x+-" + more + "<=0)),?r)", "(1*x+" + more + more + "<=0)", "&((" + more + "=0),F)",
	} {
		if x, e := canon.Expr(made(s)); e != api.ErrSize || x.Dump() != (ast.Expr{}).Dump() {
			t.Errorf("%s: %s and error %d", s, x.Dump(), e)
		}
	}
}

func TestShow(t *testing.T) { // P15.2
	nines, more := strings.Repeat("9", api.MaxDigits), "1"+strings.Repeat("0", api.MaxDigits)
	for s, text := range map[string]string{
		"T": "true", "F": "false", "&()": "true", "|()": "false", "?p": "p", "!?p": "not p", "!!?p": "p", "?res": "res", "!?res": "not res",
		"(2*x+-3<=0)": "x <= 1", "(-2*x+3<=0)": "2 <= x", "(-2*x+4*y+-6=0)": "x + 3 = 2 * y", "(-1*x+2*y+4<=0)": "2 * y + 4 <= x", "!(1*x+0=0)": "1 <= x || x + 1 <= 0", "(1*a+-2*b+3*c+-4*d+5<=0)": "a + 3 * c + 5 <= 2 * b + 4 * d",
		"&(?q,?p,?q)": "p && q", "|(?q,!?p)": "not p || q", "&(|(?q,?p),!?r,&(?a,(-1*res+1*x+1<=0)))": "not r && x + 1 <= res && a && (p || q)", "|(&(?a,?b),&(?c,|(?d,?e)))": "a && b || c && (d || e)", "!|(?a,&(?b,?c))": "not a && (not b || not c)",
		// What the normal form is without plays no part.
		"|(?let,T)": "true", "&((1*_+0<=0),F)": "false", "&(|(?9,!?9),?p)": "p", "(2*x+1=0)": "false", "(" + more + "*x+0<=0)": "x <= 0", "(" + more + "*x+-1<=0)": "x <= 0", "(" + more + "<=0)": "false", "|((1*x+" + more + "<=0),T)": "true",
		"(" + nines + "*x+1*y+-" + nines + "<=0)": nines + " * x + y <= " + nines,
	} {
		if got, e := canon.Show(made(s)); e != api.OK || got != text {
			t.Errorf("%s: got %q and error %d, want %q", s, got, e, text)
		}
	}
	for s, want := range map[string]api.Errno{
		"?let": api.ErrForm, "!?true": api.ErrForm, "(1*_+0<=0)": api.ErrForm, "&(?p,?9)": api.ErrForm, "&((1*x+" + more + "<=0),?let)": api.ErrForm,
		"(1*x+" + more + "<=0)": api.ErrSize, "(-" + more + "*x+1*y+0=0)": api.ErrSize, "&(?p,|(?q,(1*x+-" + more + "<=0)))": api.ErrSize,
		// An Eq's Not has one more.
		"!(1*x+" + nines + "=0)": api.ErrSize, "!(1*x+-" + nines + "<=0)": api.ErrSize,
	} {
		if got, e := canon.Show(made(s)); e != want || got != "" {
			t.Errorf("%s: %q and error %d", s, got, e)
		}
	}
}

func TestRead(t *testing.T) { // P15.3
	flags := bag.Of("p", "q", "r")
	for s, text := range map[string]string{
		"true": "T", "x<x": "F", "p": "?p", "2*x-4*y>=7&&p&&p": "&((-1*x+2*y+4<=0),?p)", "not(x<y)": "(-1*x+1*y+0<=0)", "x<>0": "|((-1*x+1<=0),(1*x+1<=0))", "p=q": "&(|(!?p,?q),|(!?q,?p))", "p=>p": "T", "res>x": "(-1*res+1*x+1<=0)",
		"q&&(p&&(q&&true))": "&(?p,?q)", "not(p=>(q||r))": "&(!?q,!?r,?p)", " ( p )||--x\n q": "|(?p,?q)", "2*x=2*y+1": "F",
		"p<>q": "|(&(!?p,?q),&(!?q,?p))",
	} {
		got, e := canon.Read(s, flags)
		want(t, s, got, e, text)
	}
	got, e := canon.Read("res&&not res2", bag.Of("res", "res2"))
	want(t, "a result that is a truth", got, e, "&(!?res2,?res)")
	got, e = canon.Read("p=q", bag.Set[string]{})
	want(t, "without flags", got, e, "(1*p+-1*q+0=0)")

	deep := strings.Repeat("(", api.MaxDepth-1) + "p" + strings.Repeat(")", api.MaxDepth-1)
	got, e = canon.Read(deep, flags)
	want(t, "as deep as may be", got, e, "?p")
	wide := "p&&" + strings.Repeat(" ", api.MaxText-4) + "q"
	got, e = canon.Read(wide, flags)
	want(t, "as long as may be", got, e, "&(?p,?q)")
	nines := strings.Repeat("9", api.MaxDigits)
	got, e = canon.Read(nines+"*x<"+nines, flags)
	want(t, "as many digits as may be", got, e, "(1*x+0<=0)")
	many := strings.Repeat("x<>0||", 1023)
	got, e = canon.Read(many+"p", flags)
	want(t, "an Or of many Nes", got, e, "|((-1*x+1<=0),(1*x+1<=0),?p)")

	for s, want := range map[string]api.Errno{
		"": api.ErrForm, "x<": api.ErrForm, "p q": api.ErrForm, "p)": api.ErrForm, "x<1<2": api.ErrForm, "p&&": api.ErrForm, "let": api.ErrForm, "if p then p else p": api.ErrForm, "let x=1 in p": api.ErrForm, "f(x)=1": api.ErrForm, "f(x)": api.ErrForm, "assert p in p": api.ErrForm, "#": api.ErrForm, "p\xff": api.ErrForm,
		nines + "9<x": api.ErrForm, "(" + deep + ")": api.ErrForm, wide + " ": api.ErrForm, "{p}": api.ErrForm, "p;": api.ErrForm,
		// Of a text that is no formula nothing else is told.
		"x&&": api.ErrForm, "x*x<1 1": api.ErrForm, many + many + many + "p q": api.ErrForm,
		"x": api.ErrType, "1": api.ErrType, "p&&x": api.ErrType, "p<1": api.ErrType, "p=1": api.ErrType, "res": api.ErrType, "x&&x*x<1": api.ErrType,
		"x*y<1": api.ErrLinear, "x/2=1": api.ErrLinear, "p&&x%2=1": api.ErrLinear, "x*x<1&&x": api.ErrLinear,
		// Of has too many of it, with an error behind it, or Normal has, even if little would be left.
		strings.Repeat("p&&", 2048) + "p": api.ErrFull, strings.Repeat("p&&", 2048) + "p&&1": api.ErrFull, "1&&" + strings.Repeat("p&&", 2048) + "p": api.ErrType, many + many[:6*342] + "p": api.ErrFull, many + many[:6*341] + "x": api.ErrType, "not(" + strings.Repeat("x=0&&", 1024) + "p)": api.ErrFull,
	} {
		got, e := canon.Read(s, flags)
		wantError(t, s, got, e, want)
	}
}

func TestReadAtNormalsLimit(t *testing.T) { // P15.3: each x=0 becomes three and comes with an And, that stays one
	for n, want := range map[int]api.Errno{1000: api.OK, 1024: api.OK, 1025: api.ErrFull, 1500: api.ErrFull} {
		s := "not(" + strings.Repeat("x=0&&", n-1) + "x=0)"
		x, f := parse.Formula(s, api.MaxDepth)
		e, _ := ast.FormulaOf(x)
		if p, bad := pred.Of(e, bag.Set[string]{}); f.E != api.OK || bad != api.OK || !p.Right() {
			t.Fatal(n, bad)
		}
		p, bad := canon.Read(s, bag.Set[string]{})
		if bad != want || want == api.OK && p.String() != "|((-1*x+1<=0),(1*x+1<=0))" || want != api.OK && p.Kind != 0 {
			t.Error(n, p, bad)
		}
	}
}

func TestExprMemory(t *testing.T) { // P15.2
	p := made("&(?p,!|(?q,(2*x+-3*y+1<=0),(1*z+0=0)),?r)")
	text := p.String()
	x, e := canon.Expr(p)
	again, _ := canon.Expr(p)
	if e != api.OK {
		t.Fatal(e)
	}
	wantAlone(t, "Expr", exprRoom(x), exprRoom(again)...)
	dump := x.Dump()
	p.Kids[0], p.Kids[1].Kids[0].Kids[0] = made("T"), made("T")
	if x.Dump() != dump {
		t.Error("changed with its argument:", x.Dump())
	}
	long := "alphabeta"
	word, e := canon.Expr(flag(long[:5]))
	if e != api.OK || word.Name != "alpha" || unsafe.StringData(word.Name) == unsafe.StringData(long) {
		t.Error("a name shares memory:", word.Name, e)
	}
	again.Kids[0].Kids[0] = ast.Expr{}
	if x.Dump() != dump || made(text).String() != text {
		t.Error("changed with another answer:", x.Dump())
	}
}
