package canon_test

import (
	"slices"
	"strings"
	"testing"
	"unsafe"

	"touchstone/api"
	"touchstone/ast"
	"touchstone/bag"
	"touchstone/canon"
	"touchstone/parse"
	"touchstone/pred"
	"touchstone/term"
	"touchstone/zed"
)

// number is that of a text, which may be longer than layer 1 reads at once.
func number(s string) zed.Int {
	digits, below := strings.CutPrefix(s, "-")
	var n zed.Int
	for i := range len(digits) {
		n = n.Mul(zed.From(10)).Add(zed.From(int(digits[i] - '0')))
	}
	if below {
		n = n.Neg()
	}
	return n
}

// termOf is a term of a text such as "2*x+-1*y+3".
func termOf(s string) term.Term {
	var out term.Term
	for _, p := range strings.Split(s, "+") {
		if factor, name, ok := strings.Cut(p, "*"); ok {
			out = out.Plus(term.Name(name).Times(number(factor)))
		} else {
			out = out.Plus(term.Num(number(p)))
		}
	}
	return out
}

// made is a predicate of a text as layer 14 tells it, in which names have none of the signs.
func made(s string) pred.Pred {
	p, rest := cut(s)
	if rest != "" {
		panic(s)
	}
	return p
}

// cut is the predicate that a text begins with, and what is behind it.
func cut(s string) (pred.Pred, string) {
	switch s[0] {
	case 'T':
		return pred.Pred{Kind: pred.Yes}, s[1:]
	case 'F':
		return pred.Pred{Kind: pred.No}, s[1:]
	case '?':
		end := strings.IndexAny(s, ",)")
		if end < 0 {
			end = len(s)
		}
		return flag(s[1:end]), s[end:]
	case '!':
		kid, rest := cut(s[1:])
		return pred.Pred{Kind: pred.Not, Kids: []pred.Pred{kid}}, rest
	case '&':
		return cutList(pred.And, s)
	case '|':
		return cutList(pred.Or, s)
	}
	text, rest, _ := strings.Cut(s[1:], ")")
	if t, ok := strings.CutSuffix(text, "<=0"); ok {
		return pred.Pred{Kind: pred.Le, Term: termOf(t)}, rest
	}
	t, ok := strings.CutSuffix(text, "=0")
	if s[0] != '(' || !ok {
		panic(s)
	}
	return pred.Pred{Kind: pred.Eq, Term: termOf(t)}, rest
}

func cutList(kind int, s string) (pred.Pred, string) {
	out, rest := pred.Pred{Kind: kind}, s[2:]
	for rest[0] != ')' {
		var kid pred.Pred
		kid, rest = cut(strings.TrimPrefix(rest, ","))
		out.Kids = append(out.Kids, kid)
	}
	return out, rest[1:]
}

func flag(name string) pred.Pred { return pred.Pred{Kind: pred.Flag, Name: name} }

func atMost(t term.Term) pred.Pred { return pred.Pred{Kind: pred.Le, Term: t} }

func zero(t term.Term) pred.Pred { return pred.Pred{Kind: pred.Eq, Term: t} }

// same tells whether two have the same, whatever their texts are.
func same(a, b pred.Pred) bool {
	return a.Kind == b.Kind && a.Name == b.Name && term.Same(a.Term, b.Term) && slices.EqualFunc(a.Kids, b.Kids, same)
}

// deep is so many of a kind in each other, and one in the middle.
func deep(kind, n int, p pred.Pred) pred.Pred {
	for range n {
		p = pred.Pred{Kind: kind, Kids: []pred.Pred{p}}
	}
	return p
}

// endless has itself inside.
func endless(kind int) pred.Pred {
	kids := make([]pred.Pred, 1)
	kids[0] = pred.Pred{Kind: kind, Kids: kids}
	return kids[0]
}

// wrong are those that aren't right.
func wrong() []pred.Pred {
	x, yes := term.Name("x"), made("T")
	l := []pred.Pred{
		{}, {Kind: -1}, {Kind: 9}, {Kind: pred.Flag}, {Kind: pred.Yes, Name: "p"}, {Kind: pred.No, Term: x}, {Kind: pred.Flag, Name: "p", Term: x}, {Kind: pred.Not}, {Kind: pred.Not, Kids: []pred.Pred{yes, yes}},
		{Kind: pred.Le, Term: x, Kids: []pred.Pred{yes}}, {Kind: pred.Eq, Name: "x", Term: x}, {Kind: pred.And, Name: "p"}, {Kind: pred.Or, Term: x}, {Kind: pred.And, Kids: make([]pred.Pred, 1)}, {Kind: pred.Or, Kids: []pred.Pred{yes, {}}},
		{Kind: pred.And, Kids: slices.Repeat([]pred.Pred{yes}, api.MaxAtoms)}, deep(pred.Not, api.MaxAtoms, yes), deep(pred.And, 50000, yes), endless(pred.Not), endless(pred.And), endless(pred.Or),
	}
	for _, p := range l[:9] {
		l = append(l, pred.Pred{Kind: pred.Or, Kids: []pred.Pred{yes, p}}, pred.Pred{Kind: pred.Not, Kids: []pred.Pred{{Kind: pred.And, Kids: []pred.Pred{p}}}})
	}
	return l
}

// want holds a predicate that a call told against its text.
func want(t *testing.T, what string, got pred.Pred, e api.Errno, text string) {
	t.Helper()
	if e != api.OK || got.String() != text || !same(got, made(text)) {
		t.Errorf("%.300s: got %.300s and error %d, want %.300s", what, got, e, text)
	}
}

// wantError holds an error, and that nothing is told beside it.
func wantError(t *testing.T, what string, got pred.Pred, e, want api.Errno) {
	t.Helper()
	if e != want || !same(got, pred.Pred{}) {
		t.Errorf("%.300s: got %.300s and error %d, want error %d", what, got, e, want)
	}
}

// formulaOf is the expression of a formula, without its places.
func formulaOf(t *testing.T, s string) ast.Expr {
	t.Helper()
	x, f := parse.Formula(s, api.MaxDepth)
	if f.E != api.OK {
		t.Fatalf("%.200q: %v", s, f)
	}
	out, e := ast.FormulaOf(x)
	if e != api.OK {
		t.Fatalf("%.200q: error %d", s, e)
	}
	return out
}

// room are all lists of kids in a predicate, with their spare room.
func room(p pred.Pred) [][]pred.Pred {
	var out [][]pred.Pred
	if cap(p.Kids) > 0 {
		out = append(out, p.Kids[:cap(p.Kids)])
	}
	for _, kid := range p.Kids {
		out = append(out, room(kid)...)
	}
	return out
}

// exprRoom is likewise of an expression.
func exprRoom(e ast.Expr) [][]ast.Expr {
	var out [][]ast.Expr
	if cap(e.Kids) > 0 {
		out = append(out, e.Kids[:cap(e.Kids)])
	}
	for _, kid := range e.Kids {
		out = append(out, exprRoom(kid)...)
	}
	return out
}

// overlap tells whether two lists have memory in common.
func overlap[T any](a, b []T) bool {
	var one T
	start, other, size := uintptr(unsafe.Pointer(unsafe.SliceData(a))), uintptr(unsafe.Pointer(unsafe.SliceData(b))), unsafe.Sizeof(one)
	return start < other+uintptr(len(b))*size && other < start+uintptr(len(a))*size
}

// wantAlone holds that no two of an answer's lists share memory, and none shares any with others.
func wantAlone[T any](t *testing.T, what string, answer [][]T, others ...[]T) {
	t.Helper()
	for i, a := range answer {
		for _, b := range append(answer[:i:i], others...) {
			if overlap(a, b) {
				t.Errorf("%.200s: two lists share memory", what)
			}
		}
	}
}

func TestNormal(t *testing.T) { // P15.1
	for s, text := range map[string]string{
		"T": "T", "F": "F", "?p": "?p", "!?p": "!?p", "!T": "F", "!F": "T", "!!?p": "?p", "!!!?p": "!?p", "?res": "?res",
		// Le.
		"(0<=0)": "T", "(-1<=0)": "T", "(1<=0)": "F", "(7<=0)": "F", "!(0<=0)": "F", "!(1<=0)": "T",
		"(1*x+0<=0)": "(1*x+0<=0)", "(-1*x+5<=0)": "(-1*x+5<=0)", "(2*x+-3<=0)": "(1*x+-1<=0)", "(2*x+3<=0)": "(1*x+2<=0)", "(2*x+4<=0)": "(1*x+2<=0)", "(2*x+-4<=0)": "(1*x+-2<=0)", "(-2*x+1<=0)": "(-1*x+1<=0)", "(-2*x+-1<=0)": "(-1*x+0<=0)",
		"(3*x+1<=0)": "(1*x+1<=0)", "(3*x+2<=0)": "(1*x+1<=0)", "(3*x+3<=0)": "(1*x+1<=0)", "(3*x+4<=0)": "(1*x+2<=0)", "(3*x+-1<=0)": "(1*x+0<=0)", "(3*x+-2<=0)": "(1*x+0<=0)", "(3*x+-3<=0)": "(1*x+-1<=0)",
		"(6*x+-4*y+5<=0)": "(3*x+-2*y+3<=0)", "(6*x+-4*y+-5<=0)": "(3*x+-2*y+-2<=0)", "(2*x+3*y+7<=0)": "(2*x+3*y+7<=0)", "(6*x+10*y+15*z+7<=0)": "(6*x+10*y+15*z+7<=0)", "(-6*a+-9*b+-12*c+1<=0)": "(-2*a+-3*b+-4*c+1<=0)",
		"!(2*x+-3<=0)": "(-1*x+2<=0)", "!(2*x+0<=0)": "(-1*x+1<=0)",
		// Eq.
		"(0=0)": "T", "(1=0)": "F", "(-1=0)": "F", "!(0=0)": "F", "!(-3=0)": "T",
		"(1*x+3=0)": "(1*x+3=0)", "(-1*x+3=0)": "(1*x+-3=0)", "(2*x+3=0)": "F", "(2*x+-4=0)": "(1*x+-2=0)", "(-2*x+-4=0)": "(1*x+2=0)", "(-2*x+4*y+-6=0)": "(1*x+-2*y+3=0)", "(-2*x+4*y+-5=0)": "F", "(2*x+-4*y+0=0)": "(1*x+-2*y+0=0)", "(-2*x+3*y+7=0)": "(2*x+-3*y+-7=0)",
		"(-6*b+9*a+3=0)": "(3*a+-2*b+1=0)", "(-1*Z+1*a+0=0)": "(1*Z+-1*a+0=0)", "!(1*x+0=0)": "|((-1*x+1<=0),(1*x+1<=0))", "!(-3*x+6=0)": "|((-1*x+3<=0),(1*x+-1<=0))", "!(2*x+3=0)": "|((-1*x+-1<=0),(1*x+2<=0))",
		// And.
		"&()": "T", "&(?p)": "?p", "&(T)": "T", "&(F)": "F", "&(T,T)": "T", "&(F,F)": "F", "&(?p,T)": "?p", "&(T,?p,T)": "?p", "&(?p,F)": "F", "&(F,T)": "F", "&(?p,?p)": "?p", "&(?q,?p)": "&(?p,?q)", "&(?p,!?p)": "F", "&(!?p,?q,?r,?p)": "F", "&(!?p,?q)": "&(!?p,?q)",
		"&((2*x+1<=0),(3*x+2<=0))": "(1*x+1<=0)", "&((1*x+0<=0),(-1*x+1<=0))": "&((-1*x+1<=0),(1*x+0<=0))", "&((2*x+1=0),?p)": "F", "&((-1<=0),?p)": "?p", "&((1*x+1=0),(-1*x+-1=0))": "(1*x+1=0)", "&((1*x+0<=0),(1*x+0=0))": "&((1*x+0<=0),(1*x+0=0))",
		"&(&(?c,?a),?b)": "&(?a,?b,?c)", "&(&(&(?d,?a),?c),&(?b,?a))": "&(?a,?b,?c,?d)", "&(&(?p,?q),!?q)": "F", "&(&(),&(T))": "T", "&(&(?p,F),?q)": "F", "&(&(?a,?b),&(?b,?a))": "&(?a,?b)",
		// Or.
		"|()": "F", "|(?p)": "?p", "|(F)": "F", "|(T)": "T", "|(F,F)": "F", "|(?p,F)": "?p", "|(?p,T)": "T", "|(F,T)": "T", "|(?p,?p)": "?p", "|(?q,?p)": "|(?p,?q)", "|(?p,!?p)": "T", "|(?q,!?p,?p)": "T", "|(?p,!?q)": "|(!?q,?p)",
		"|((2*x+1=0),?p)": "?p", "|((-1<=0),?p)": "T", "|(|(?c,?a),?b)": "|(?a,?b,?c)", "|(|(?p,?q),!?q)": "T", "|(|(?p,T),?q)": "T",
		// Nots.
		"!&()": "F", "!|()": "T", "!&(?p,?q)": "|(!?p,!?q)", "!|(?p,!?q)": "&(!?p,?q)", "!&(?p,!?p)": "T", "!|(?p,!?p)": "F", "!&(&(?a,?b),|(?c,!?d))": "|(!?a,!?b,&(!?c,?d))",
		// From the inside out.
		"&(|(?p,?q),|(?q,?p))": "|(?p,?q)", "&(|(?p,F),?q)": "&(?p,?q)", "&(|(&(?p,?q)),?r)": "&(?p,?q,?r)", "|(&(|(?p,?q)),?r)": "|(?p,?q,?r)", "&(|(&(?p,?q),&(?q,?p)),!?q)": "F", "|(&(|(?p,!?q),T),?q)": "T", "&(|(?p,!?p),?q)": "?q", "|(&(?p,!?p),?q)": "?q", "|(&(?p,(2*x+1=0)),&(?q,?q))": "?q",
		"&(|(&(?b,?c,?a)),|(|(&(?d,?a))))": "&(?a,?b,?c,?d)", "&(|(?p),!|(?p))": "F", "&(|(?p,?q),!|(?p,?q))": "&(!?p,!?q,|(?p,?q))", "&(|(F,&(T)),|(?p,?q))": "|(?p,?q)", "|(&(|(?p,?q)),&(|(?q,?p)))": "|(?p,?q)",
		// In the order of texts, byte by byte.
		"&(|(?a),&(),|(?b,?a),?b,!?c,(1*x+0<=0),(-1*x+0<=0),(1*x+0=0))": "&(!?c,(-1*x+0<=0),(1*x+0<=0),(1*x+0=0),?a,?b,|(?a,?b))", "|(&(?b,?a),?B,?a1,?a,?a0,!?z)": "|(!?z,&(?a,?b),?B,?a,?a0,?a1)",
		"&((1*x+10<=0),(1*x+9<=0),(1*x+-1<=0),(10*x+1*y+0<=0),(9*x+1*y+0<=0),(1*X+0<=0))": "&((1*X+0<=0),(1*x+-1<=0),(1*x+10<=0),(1*x+9<=0),(10*x+1*y+0<=0),(9*x+1*y+0<=0))",
		"&(|(?a,?b,?c),|(?a,?b),|(?a,?bb))":                                               "&(|(?a,?b),|(?a,?b,?c),|(?a,?bb))", "&(|(&(?a,?b),?c),|((1*x+0<=0),?c),|(!?a,?c))": "&(|(!?a,?c),|(&(?a,?b),?c),|((1*x+0<=0),?c))",
		// A flag isn't what a number of its name is, nor is the Not of a whole one.
		"&(?x,(1*x+0=0))": "&((1*x+0=0),?x)", "&((1*x+0<=0),!(1*x+0<=0))": "&((-1*x+1<=0),(1*x+0<=0))", "|(?p,!?pp,!?P)": "|(!?P,!?pp,?p)",
	} {
		got, e := canon.Normal(made(s))
		want(t, s, got, e, text)
		got, e = canon.Normal(got)
		want(t, "again "+text, got, e, text)
	}
}

func TestNormalOfGreatNumbers(t *testing.T) { // P15.1
	big, wide := strings.Repeat("9", 500), "1"+strings.Repeat("0", 500)
	for s, text := range map[string]string{
		"(" + big + "*x+-" + wide + "<=0)":                "(1*x+-1<=0)",
		"(" + big + "*x+" + wide + "<=0)":                 "(1*x+2<=0)",
		"(-" + big + "*x+" + big + "=0)":                  "(1*x+-1=0)",
		"(-" + big + "*x+" + wide + "=0)":                 "F",
		"(" + big + "*x+" + wide + "*y+7<=0)":             "(" + big + "*x+" + wide + "*y+7<=0)",
		"(" + wide + "0*x+" + wide + "00*y+-1<=0)":        "(1*x+10*y+0<=0)",
		"&((" + big + "<=0),?p)":                          "F",
		"!(" + wide + "*x+-" + wide + "*y+" + big + "=0)": "|((-1*x+1*y+0<=0),(1*x+-1*y+1<=0))",
	} {
		got, e := canon.Normal(made(s))
		want(t, s, got, e, text)
	}
}

func TestNormalOfOddNames(t *testing.T) { // P15.1: those that aren't the same, but have one text, are two
	sum, odd := term.Name("x").Plus(term.Name("y")), term.Name("x+1*y")
	three, two := pred.Any(flag("a"), flag("b"), flag("c")), pred.Any(flag("a,?b"), flag("c"))
	for _, l := range [][2]pred.Pred{{atMost(sum), atMost(odd)}, {zero(sum), zero(odd)}, {three, two}} {
		if l[0].String() != l[1].String() {
			t.Fatal(l)
		}
		if yes, e := canon.Same(l[0], l[1]); yes || e != api.OK {
			t.Error(l, yes, e)
		}
		got, e := canon.Normal(pred.All(l[0], l[1], l[0], l[1]))
		if e != api.OK || len(got.Kids) != 2 || same(got.Kids[0], got.Kids[1]) {
			t.Error(got, e)
		}
		other, e := canon.Normal(pred.All(l[1], l[0]))
		if e != api.OK || !same(got, other) {
			t.Error(got, other, e)
		}
	}
	for _, l := range [][2]pred.Pred{
		{pred.Any(two, three), pred.Any(flag("a"), flag("a,?b"), flag("b"), flag("c"))},
		{pred.All(flag("\xff"), flag("\x00"), pred.Deny(flag("é"))), pred.All(pred.Deny(flag("é")), flag("\x00"), flag("\xff"))},
		// The first name may be the empty one.
		{zero(term.Name("").Times(zed.From(-2)).Plus(odd, odd)), zero(term.Name("").Minus(odd))},
	} {
		if got, e := canon.Normal(l[0]); e != api.OK || !same(got, l[1]) {
			t.Error(l[0], got, e)
		}
	}
}

func TestNormalAtTheLimit(t *testing.T) { // P15.1
	const n = api.MaxAtoms
	list := func(kind, count int, s string, more ...string) pred.Pred {
		p := pred.Pred{Kind: kind, Kids: slices.Repeat([]pred.Pred{made(s)}, count)}
		for _, one := range more {
			p.Kids = append(p.Kids, made(one))
		}
		return p
	}
	for i, l := range []struct {
		p    pred.Pred
		text string
	}{
		{list(pred.And, n-1, "?p"), "?p"},
		{list(pred.Or, n-2, "?p", "T"), "T"},
		{list(pred.Or, (n-1)/3, "!(1*x+0=0)"), "|((-1*x+1<=0),(1*x+1<=0))"},
		{pred.Deny(list(pred.And, (n-1)/3, "(1*x+0=0)")), "|((-1*x+1<=0),(1*x+1<=0))"},
		{deep(pred.Not, n-1, made("?p")), "!?p"},
		{deep(pred.And, n-1, made("(2*x+1<=0)")), "(1*x+1<=0)"},
		{deep(pred.Or, n-1, made("&()")), "T"},
	} {
		got, e := canon.Normal(l.p)
		want(t, string(rune('0'+i)), got, e, l.text)
	}
	// What comes first is too great, whatever it would come to.
	for i, p := range []pred.Pred{
		list(pred.Or, (n-1)/3, "!(1*x+0=0)", "T"), list(pred.And, (n-1)/3, "!(0=0)", "F"), pred.Deny(list(pred.And, n-2, "?p")), pred.Deny(list(pred.Or, (n-1)/3+1, "(2*x+1=0)")),
	} {
		got, e := canon.Normal(p)
		wantError(t, "too many: "+string(rune('0'+i)), got, e, api.ErrFull)
		if text, e := canon.Show(p); text != "" || e != api.ErrFull {
			t.Error(i, e)
		}
		if yes, e := canon.Same(made("T"), p); yes || e != api.ErrFull {
			t.Error(i, yes, e)
		}
		// Of itself it has an expression.
		if x, e := canon.Expr(p); e != api.OK || len(x.Kids) == 0 {
			t.Error(i, e)
		}
	}
}

func TestWrongOnes(t *testing.T) { // P15.1, P15.2, P15.3
	full := pred.Deny(pred.All(slices.Repeat([]pred.Pred{made("?p")}, api.MaxAtoms-2)...))
	for i, p := range wrong() {
		what := string(rune('0' + i))
		got, e := canon.Normal(p)
		wantError(t, what, got, e, api.ErrForm)
		if x, e := canon.Expr(p); e != api.ErrForm || x.Dump() != (ast.Expr{}).Dump() {
			t.Errorf("%s: %.200s and error %d", what, x.Dump(), e)
		}
		if s, e := canon.Show(p); e != api.ErrForm || s != "" {
			t.Errorf("%s: %.200s and error %d", what, s, e)
		}
		// The first one's error is told first.
		for j, l := range [][2]pred.Pred{{p, p}, {p, made("T")}, {made("T"), p}, {p, full}} {
			if yes, e := canon.Same(l[0], l[1]); yes || e != api.ErrForm {
				t.Error(what, j, yes, e)
			}
		}
		if yes, e := canon.Same(full, p); yes || e != api.ErrFull {
			t.Error(what, yes, e)
		}
	}
}

func TestSame(t *testing.T) { // P15.3
	for _, l := range [][]string{
		{"T", "!F", "&()", "(0<=0)", "(0=0)", "|(?p,!?p)", "|(T,?p)", "!&(?p,!?p)"},
		{"F", "|()", "(1<=0)", "(2*x+1=0)", "&(?p,!?p)"},
		{"?p", "!!?p", "&(?p,?p)", "|(F,&(?p))"},
		{"!?p", "!!!?p", "|(!?p,F)"},
		{"?x"},
		{"(1*x+1<=0)", "(2*x+1<=0)", "(2*x+2<=0)", "!(-1*x+0<=0)", "!(-3*x+-2<=0)"},
		{"(1*x+2<=0)"}, {"(1*y+1<=0)"}, {"(-1*x+1<=0)"}, {"(1*x+1*y+1<=0)"}, {"(1*x+2*y+1<=0)"},
		{"(1*x+1=0)", "(-2*x+-2=0)"},
		{"!(1*x+1=0)", "|((1*x+2<=0),(-1*x+0<=0))"},
		{"&(?a,?b)", "&(?b,?a,?b)", "&(&(?b),|(?a))", "!|(!?a,!?b)"},
		{"|(?a,?b)", "|(?b,?a)"}, {"&(?a,?b,?c)", "&(?c,&(?b,?a))"}, {"&(?a,|(?b,?c))"}, {"|(&(?a,?b),&(?a,?c))"},
	} {
		for _, a := range l {
			for _, b := range l {
				if yes, e := canon.Same(made(a), made(b)); !yes || e != api.OK {
					t.Error(a, b, yes, e)
				}
			}
			for _, b := range []string{"?q", "&((1*x+1<=0),?p)", "(7*x+1*y+0<=0)"} {
				if yes, e := canon.Same(made(a), made(b)); yes || e != api.OK {
					t.Error(a, b, yes, e)
				}
				if yes, e := canon.Same(made(b), made(a)); yes || e != api.OK {
					t.Error(a, b, yes, e)
				}
			}
		}
	}
	firsts := strings.Fields("T F ?p !?p ?x (1*x+1<=0) (1*x+2<=0) (1*y+1<=0) (-1*x+1<=0) (1*x+1*y+1<=0) (1*x+2*y+1<=0) (1*x+1=0) !(1*x+1=0) &(?a,?b) |(?a,?b) &(?a,?b,?c) &(?a,|(?b,?c)) |(&(?a,?b),&(?a,?c))")
	for i, a := range firsts {
		for j, b := range firsts {
			if yes, e := canon.Same(made(a), made(b)); yes != (i == j) || e != api.OK {
				t.Error(a, b, yes, e)
			}
		}
	}
}

func TestMemory(t *testing.T) { // P15.1, P15.3
	const n = 6
	p := made("&(|(?a,?b,&(?c,!?d)),&(?e,&(|(&(?f,(2*x+1<=0))),?e)),?g,!|(?h,!?i))")
	p.Kids = append(make([]pred.Pred, 0, n), p.Kids...)
	before := p.String()
	for _, q := range []pred.Pred{p, made("&(&(?a,?b))"), made("|(&(|(?a,!?b)),?c)"), made("!?p")} {
		got, e := canon.Normal(q)
		again, _ := canon.Normal(q)
		third, _ := canon.Normal(got)
		others := append(append(room(q), room(again)...), room(third)...)
		if e != api.OK {
			t.Error(e)
		}
		wantAlone(t, q.String(), room(got), others...)
	}
	got, _ := canon.Normal(p)
	text := got.String()
	p.Kids[0].Kids[0] = made("T")
	if got.String() != text {
		t.Error("changed with its argument:", got)
	}
	p.Kids[0].Kids[0] = made("?a")
	if got.Kids = append(got.Kids, made("T")); p.String() != before || p.Kids[:n][4].Kind != 0 {
		t.Error("changed:", p)
	}
	read, e := canon.Read("a&&(b||a&&c)", bag.Of("a", "b", "c"))
	again, _ := canon.Read("a&&(b||a&&c)", bag.Of("a", "b", "c"))
	want(t, "read", read, e, "&(?a,|(&(?a,?c),?b))")
	wantAlone(t, "read", room(read), room(again)...)
}

// chain is so many Ands and Ors in each other, by turns, with one more kid each.
func chain(n int, kid func(at int) pred.Pred) pred.Pred {
	p := made("?z")
	for i := range n {
		p = pred.Pred{Kind: pred.And + i%2, Kids: []pred.Pred{kid(i), p}}
	}
	return p
}

func TestDeepOnes(t *testing.T) { // P1, P15.1, P15.2
	const n = (api.MaxAtoms - 1) / 2
	got, e := canon.Normal(chain(n, func(at int) pred.Pred { return flag(string(rune('a' + at%3))) }))
	text := "?z"
	for i := range n {
		text = string("&|"[i%2]) + "(" + strings.Join(slices.Sorted(slices.Values([]string{"?" + string(rune('a'+i%3)), text})), ",") + ")"
	}
	want(t, "a chain", got, e, text)
	got, e = canon.Normal(chain(n, func(at int) pred.Pred { return []pred.Pred{made("T"), made("F")}[at%2] }))
	want(t, "an idle chain", got, e, "?z")
	far := termOf(strings.Repeat("9", 600) + "*x+1*y+7")
	got, e = canon.Normal(chain(n, func(at int) pred.Pred { return atMost(far.Plus(term.Num(zed.From(at)))) }))
	if e != api.OK || !got.Right() || len(got.Kids) != 2 {
		t.Error("great terms:", e)
	}
	x, e := canon.Expr(deep(pred.Not, api.MaxAtoms-1, made("?p")))
	if e != api.OK || x.Dump() != strings.Repeat("[6 ", api.MaxAtoms-1)+"[3 p]"+strings.Repeat("]", api.MaxAtoms-1) {
		t.Error("Nots:", e)
	}
	many := pred.Pred{Kind: pred.And, Kids: slices.Repeat([]pred.Pred{flag("p")}, api.MaxAtoms-1)}
	x, e = canon.Expr(many)
	if e != api.OK || x.Dump() != strings.Repeat("[18 ", api.MaxAtoms-2)+"[3 p]"+strings.Repeat(" [3 p]]", api.MaxAtoms-2) {
		t.Error("an And of many:", e)
	}
}
