package types_test

import (
	"fmt"
	"math"
	"runtime/debug"
	"slices"
	"strings"
	"testing"

	"touchstone/api"
	"touchstone/ast"
	"touchstone/lex"
	"touchstone/sig"
	"touchstone/types"
)

// bodyOf is the expression of a text, with Ats as of places in it.
func bodyOf(t *testing.T, s string) ast.Expr {
	t.Helper()
	const head = "fun f():int="
	e := programOf(t, head+s+";").Defs[0].Body
	var move func(e *ast.Expr)
	move = func(e *ast.Expr) {
		e.At -= len(head)
		for i := range e.Kids {
			move(&e.Kids[i])
		}
	}
	move(&e)
	return e
}

// context is what Base is asked with besides an expression.
type context struct {
	p     ast.Program
	faces []sig.Face
	names []string
	bases []int
}

// usual is what most of these tests ask Base with: a number i, a truth b, and results that are truths.
func usual(t *testing.T) context {
	return context{
		p:     programOf(t, "import m;fun f(x:int{x},y:bool):bool{1}=x;fun c():int=true;fun c(x:int):bool=x;fun k():bool=c();"),
		faces: faces(t),
		names: []string{"i", "b"},
		bases: []int{api.Int, api.Bool},
	}
}

// wantBase holds what Base tells of an expression: a base, or, if that is 0, a fault.
func (c context) wantBase(t *testing.T, what string, e ast.Expr, base int, want lex.Fault) {
	t.Helper()
	if b, f := types.Base(c.p, c.faces, c.names, c.bases, e); b != base || f != want {
		t.Errorf("%.200s: got %d and %v, want %d and %v", what, b, f, base, want)
	}
}

// wantForm holds that Base tells of ErrForm at 0.
func (c context) wantForm(t *testing.T, what string, e ast.Expr) {
	t.Helper()
	c.wantBase(t, what, e, 0, lex.Fault{E: api.ErrForm})
}

func TestBases(t *testing.T) { // P12.2
	c := usual(t)
	for s, base := range map[string]int{
		"0": api.Int, "12": api.Int, "true": api.Bool, "false": api.Bool, "i": api.Int, "b": api.Bool, "((i))": api.Int,
		"-i": api.Int, "not b": api.Bool,
		"i+1": api.Int, "i-1": api.Int, "i*i": api.Int, "i/i": api.Int, "i%0": api.Int,
		"i<1": api.Bool, "i<=i": api.Bool, "i>i": api.Bool, "i>=1": api.Bool,
		"i=1": api.Bool, "i<>1": api.Bool, "b=true": api.Bool, "b<>b": api.Bool,
		"b&&b": api.Bool, "b||b": api.Bool, "b=>b": api.Bool,
		"if b then 1 else i":   api.Int,
		"if b then b else i>1": api.Bool,
		"let x=1 in b":         api.Bool,
		"let x=b in i":         api.Int,
		"let x=b in x":         api.Bool,
		"let i=b in i":         api.Bool,
		"let b=i in b":         api.Int,
		"let i=i=1 in let b=if i then 1 else 2 in b": api.Int,
		"let b=let i=b in i in b":                    api.Bool,
		"(let i=b in 1)+i":                           api.Int,
		"assert b in i":                              api.Int,
		"assert i=1 in b":                            api.Bool,
		"f(1,true)":                                  api.Bool,
		"f(i,f(i,b))=>b":                             api.Bool,
		"c()":                                        api.Int,
		"c()+c()":                                    api.Int,
		"k()":                                        api.Bool,
		"m.c()":                                      api.Int,
		"n.c()":                                      api.Bool,
		"n.k(m.c(),n.c())":                           api.Bool,
		"m.g(b)":                                     api.Int,
		"m.h(m.h(b,i),m.g(k()))":                     api.Bool,
		"odd.g(i,b)":                                 api.Int,
	} {
		c.wantBase(t, s, bodyOf(t, s), base, lex.Fault{})
	}
}

func TestWhatIsntAsItMustBe(t *testing.T) { // P12.2
	c := usual(t)
	for _, marked := range []string{
		"-@b", "-(@b)", "not @i", "@b+1", "i+@b", "@b+b", "i*(i@<i)", "@b/i", "i%@b", "i-@true",
		"i<@b", "@b<i", "(i@=i)<=i", "i>(@not b)", "i>=@true",
		"i=@b", "b=@i", "b<>(i@+i)", "i<>(@not b)",
		"b&&@i", "@i&&b", "@i||i", "b||i@+1", "@1=>b", "b=>@-i",
		"if @i then 1 else 2", "if b then 1 else @b", "if b then b else @i", "if @i then i else b", "if b then -@b else not i",
		"let x=-@b in not i", "let x=i in not @x", "let i=b in i=>b&&@-1", "let b=i in @b&&true", "(let b=i in true)&&b&&@i",
		"assert @i in -b", "assert b in -@b",
		"f(@b,i)", "f(1,@i)", "f(i,f(@b,b))", "f(i,not f(i,b))&&@i", "f(c()@=1,b)",
		"c()=@k()", "m.g(@i)", "m.h(b,@b)", "m.h(@i,b)", "m.h(m.h(b,1),@m.h(b,1))", "n.k(@n.c(),m.c())", "odd.g(1,@odd.g(1,b))",
		"(@b+1)+(1+b)",
	} {
		ahead, behind, _ := strings.Cut(marked, "@")
		c.wantBase(t, marked, bodyOf(t, ahead+behind), 0, lex.Fault{E: api.ErrType, At: len(ahead)})
	}
}

func TestNamesAndBases(t *testing.T) { // P12.2
	i, b := api.Int, api.Bool
	x, y := name("x"), at(7, name("y"))
	wrong := lex.Fault{E: api.ErrType, At: 7}
	for at, want := range []struct {
		names []string
		bases []int
		e     ast.Expr
		base  int
		f     lex.Fault
	}{
		// Of one name the last base counts, whatever stands between.
		{[]string{"x", "x"}, []int{i, b}, x, b, lex.Fault{}},
		{[]string{"x", "x"}, []int{b, i}, x, i, lex.Fault{}},
		{[]string{"x", "y", "x"}, []int{i, i, b}, x, b, lex.Fault{}},
		{[]string{"x", "y", "x", "y"}, []int{b, b, i, i}, op(ast.Add, x, y), i, lex.Fault{}},
		{[]string{"x", "y", "x"}, []int{b, b, i}, op(ast.Add, x, y), 0, wrong},
		{[]string{"x", "y", "y"}, []int{i, i, b}, op(ast.Eq, x, y), 0, wrong},
		{[]string{"x", "x"}, []int{i, b}, op(ast.And, let("x", x, op(ast.Not, x)), x), b, lex.Fault{}},
		{[]string{"x", "x"}, []int{b, i}, op(ast.Add, let("x", yes, num(1)), x), i, lex.Fault{}},
		// A result is of the last base, whether a name is of it or not; a number, if there is none.
		{nil, nil, res, i, lex.Fault{}},
		{nil, []int{i}, res, i, lex.Fault{}},
		{nil, []int{b}, res, b, lex.Fault{}},
		{nil, []int{i, b, b, i}, res, i, lex.Fault{}},
		{nil, []int{i, i, i, b}, res, b, lex.Fault{}},
		{[]string{"x"}, []int{b}, res, b, lex.Fault{}},
		{[]string{"x"}, []int{b, i}, res, i, lex.Fault{}},
		{[]string{"x"}, []int{i, b}, op(ast.Imp, res, op(ast.Gt, x, num(1))), b, lex.Fault{}},
		{[]string{"x", "y"}, []int{i, i, b}, op(ast.Or, res, op(ast.Ne, x, y)), b, lex.Fault{}},
		{[]string{"x", "y"}, []int{i, i, b}, op(ast.Sub, x, ast.Expr{Op: ast.Res, At: 7}), 0, wrong},
		{[]string{"res"}, []int{i, b}, res, b, lex.Fault{}},
		{[]string{"res"}, []int{i, b}, name("res"), i, lex.Fault{}},
		{[]string{"x"}, []int{i, b}, let("res", x, op(ast.And, res, op(ast.Eq, name("res"), x))), b, lex.Fault{}},
		// Bases of no name, but the last one, play no part.
		{[]string{"x"}, []int{i, b, b, b, i}, op(ast.Add, x, res), i, lex.Fault{}},
		// Names may be any.
		{[]string{"", "let", "1 x", "\xff"}, []int{b, b, b, i}, op(ast.If, name(""), op(ast.Neg, name("\xff")), let("", name("1 x"), num(2))), i, lex.Fault{}},
	} {
		c := context{names: want.names, bases: want.bases}
		c.wantBase(t, fmt.Sprint(at), want.e, want.base, want.f)
	}
}

func TestNamesThatArentBound(t *testing.T) { // P12.2
	c := usual(t)
	for _, s := range []string{
		"x", "I", "f", "m", "-x", "not x", "i+x", "x+i", "x&&b", "x=x", "i=x", "b<>x",
		"if x then 1 else 2", "if b then x else 2", "if b then 1 else x",
		"let x=x in 1", "let y=1 in x", "(let x=1 in x)+x", "let y=(let x=1 in x) in x", "let y=(let x=1 in 1)+x in y",
		"assert x in 1", "assert b in x", "f(x,b)", "f(1,x)", "m.g(x)", "m.c()+x",
	} {
		c.wantForm(t, s, bodyOf(t, s))
	}
	// The names of the program's parameters aren't bound, nor is any without names.
	(context{p: c.p}).wantForm(t, "i", name("i"))
	c.wantForm(t, "x", name("x"))
	// A result is bound always, and it is no name.
	(context{}).wantForm(t, "res", name("res"))
	c.wantForm(t, "res", name("res"))
}

func TestCallsOfNothing(t *testing.T) { // P12.2
	c := usual(t)
	for _, s := range []string{
		"none()", "F(1,true)", "i()", "f()", "f(1)", "f(1,true,2)", "c(1)", "k(1)", "m()",
		"m.none()", "m.f(1,true)", "m.c(1)", "m.g()", "m.g(true,true)", "m.h(true)", "n.c(1)", "n.g(true)", "q.g(true)", "f.f(1,true)", "own.f(1,true)",
		"-none()", "1+f(1)", "let none=1 in none()", "f(1,none())", "f(f(1),true)", "m.g(m.none())", "if b then none() else 1",
	} {
		c.wantForm(t, s, bodyOf(t, s))
	}
	// Whether its module is imported plays no part, nor does one of more parameters than programs have.
	long := sig.Face{Module: "n", Sigs: []sig.Sig{{Name: "f", Base: 2}, {Name: "f", Base: 1, Params: []sig.Slot{{Base: 1}}}, {Name: "g", Base: 1, Params: slices.Repeat([]sig.Slot{{Base: 2}}, 99)}}}
	c = context{faces: []sig.Face{long, {Module: "n"}}}
	c.wantBase(t, "a face", call("n", "f"), api.Bool, lex.Fault{})
	c.wantBase(t, "99", call("n", "g", slices.Repeat(clause(yes), 99)...), api.Int, lex.Fault{})
	c.wantBase(t, "99, a wrong one", call("n", "g", append(slices.Repeat(clause(yes), 98), at(5, num(1)))...), 0, lex.Fault{E: api.ErrType, At: 5})
	c.wantForm(t, "98", call("n", "g", slices.Repeat(clause(yes), 98)...))
	c.wantForm(t, "the second f", call("n", "f", num(1)))
}

func TestWrongNamesAndBases(t *testing.T) { // P12.2
	i, b := api.Int, api.Bool
	program := programOf(t, "fun f():int=1;")
	for at, x := range []struct {
		names []string
		bases []int
	}{
		{[]string{"x"}, nil}, {[]string{"x", "y"}, []int{i}}, {[]string{"x", "x"}, []int{b}}, {[]string{"x", "y", "z"}, []int{i, b}}, {make([]string, 100), slices.Repeat([]int{i}, 99)},
		{nil, []int{0}}, {nil, []int{3}}, {nil, []int{-1}}, {nil, []int{math.MinInt}}, {nil, []int{math.MaxInt}}, {nil, []int{1<<32 + 1}},
		{[]string{"x"}, []int{0}}, {[]string{"x"}, []int{i, 3}}, {[]string{"x"}, []int{i, 3, i}}, {[]string{"x", "x"}, []int{0, i}}, {[]string{"x", "y"}, []int{i, 3}}, {[]string{"x", "y"}, []int{3, b}},
	} {
		c := context{p: program, names: x.names, bases: x.bases}
		// Whatever the expression is.
		for _, e := range []ast.Expr{num(1), yes, res, name("x"), call("", "f"), op(ast.Add, name("x"), name("y")), op(ast.Add, num(1), ast.Expr{Op: ast.Truth, At: 9}), {}} {
			c.wantForm(t, fmt.Sprint(at), e)
		}
	}
}

func TestFirstFaultOfBase(t *testing.T) { // P12.2
	// An expression's own name or callee is looked at ahead of its kids, and whether a kid is as it must be behind that.
	c := usual(t)
	for marked, e := range map[string]api.Errno{
		"x+(1+true)": api.ErrForm, "(1+@true)+x": api.ErrType,
		"b=>x+true": api.ErrForm, "-@b=x": api.ErrType,
		"none(1+true)": api.ErrForm, "f(1+@true,none())": api.ErrType, "f(-x,-true)": api.ErrForm, "f(@b,x)": api.ErrType,
		"f(-true)": api.ErrForm, "m.none(-true)": api.ErrForm, "f(@b,f(1))": api.ErrType,
		"if @i then x else x": api.ErrType, "if x then -true else 1": api.ErrForm, "if b then 1 else -x+true": api.ErrForm,
		"let x=-@true in y": api.ErrType, "let x=y in -true": api.ErrForm, "let x=x in -true": api.ErrForm,
		"assert @1 in x": api.ErrType, "assert x in -true": api.ErrForm,
	} {
		ahead, behind, _ := strings.Cut(marked, "@")
		want := lex.Fault{E: e}
		if e == api.ErrType {
			want.At = len(ahead)
		}
		c.wantBase(t, marked, bodyOf(t, ahead+behind), 0, want)
	}
}

func TestNoExpressions(t *testing.T) { // P1, P12.2
	c := usual(t)
	c.p.Defs = append(c.p.Defs, ast.Def{Name: "z", Base: 1})
	kids := [][]ast.Expr{nil, clause(num(1)), {num(1), num(2)}, {yes, num(1), num(2)}, {yes, yes, yes}, {num(1), num(2), num(3), num(4)}, slices.Repeat(clause(yes), 99)}
	counts := map[int][]int{
		0: {ast.Lit, ast.Truth, ast.Var, ast.Res, ast.Call},
		1: {ast.Neg, ast.Not},
		2: {ast.Add, ast.Sub, ast.Mul, ast.Div, ast.Mod, ast.Eq, ast.Ne, ast.Lt, ast.Le, ast.Gt, ast.Ge, ast.And, ast.Or, ast.Imp, ast.Let, ast.Assert},
		3: {ast.If},
	}
	for has, ops := range counts {
		for _, o := range ops {
			for _, l := range kids {
				if len(l) == has {
					continue
				}
				e := ast.Expr{Op: o, Kids: l}
				switch o {
				case ast.Var:
					e.Name = "i"
				case ast.Let:
					e.Name = "x"
				case ast.Call:
					e.Name = "z"
				}
				for _, outside := range []ast.Expr{e, op(ast.Not, e), op(ast.Add, num(1), e), let("x", e, num(1)), call("", "f", e, yes)} {
					c.wantForm(t, fmt.Sprint(o, " of ", len(l)), outside)
				}
			}
		}
	}
	for _, o := range []int{0, -1, ast.Call + 1, 99, math.MinInt, math.MaxInt, ast.Lit + 1<<32} {
		for _, l := range kids {
			c.wantForm(t, fmt.Sprint(o, " of ", len(l)), op(o, l...))
			c.wantForm(t, fmt.Sprint("in it ", o, " of ", len(l)), op(ast.Eq, yes, op(o, l...)))
		}
	}
	// What says nothing of bases plays no part.
	for at, e := range []ast.Expr{num(-1), {Op: ast.Lit, Name: "x", Module: "y", Yes: true}, {Op: ast.Neg, Name: "none", Kids: clause(num(1))}, {Op: ast.Res, Name: "x", At: -9}, {Op: ast.Var, Name: "i", Module: "none"}} {
		(context{names: []string{"i"}, bases: []int{1}}).wantBase(t, fmt.Sprint(at), e, api.Int, lex.Fault{})
	}
}

func TestStrangePrograms(t *testing.T) { // P1, P12.2
	x := ast.Param{Name: "x", Base: 1}
	c := context{
		p: ast.Program{Imports: make([]ast.Import, 40), Defs: []ast.Def{
			{Name: "9", Base: 2, Params: []ast.Param{x, x}, Clause: []ast.Expr{op(-1), op(99, op(ast.Add))}, Body: op(ast.Not)},
			{Name: "none", Base: 0}, {Name: "three", Base: 3},
			{Name: "odd", Base: 1, Params: []ast.Param{x, {Name: "y"}}},
			{Name: "odd", Base: 1, Params: []ast.Param{x, x}},
		}},
		faces: []sig.Face{{Module: "let", Sigs: []sig.Sig{{Name: "9", Base: 1}, {Name: "9", Base: 2}, {Name: "minus", Base: -1}}}, {}, {Module: "let", Sigs: []sig.Sig{{Name: "b", Base: 1}}}},
	}
	c.wantBase(t, "9", call("", "9", num(1), num(2)), api.Bool, lex.Fault{})
	c.wantBase(t, "let.9", call("let", "9"), api.Int, lex.Fault{})
	c.wantBase(t, "9, a wrong one", call("", "9", num(1), at(-3, yes)), 0, lex.Fault{E: api.ErrType, At: -3})
	c.wantForm(t, "let.b", call("let", "b"))
	// A function of what is no base, and what it is called with, are neither numbers nor truths.
	for at, e := range []ast.Expr{call("", "none"), call("", "three"), call("let", "minus"), call("", "odd", num(1), num(2)), call("", "odd", yes, yes)} {
		c.wantForm(t, fmt.Sprint(at), e)
		c.wantForm(t, fmt.Sprint("in it ", at), op(ast.Eq, e, e))
		c.wantForm(t, fmt.Sprint("let ", at), let("x", e, num(1)))
	}
}

// endless are expressions with themselves inside.
func endless() []ast.Expr {
	var out []ast.Expr
	for _, o := range []int{ast.Add, ast.And, ast.Eq, ast.Let, ast.Assert, ast.Call, 99} {
		for at := range 2 {
			kids := []ast.Expr{yes, yes}
			if o == ast.Add {
				kids = []ast.Expr{num(1), num(1)}
			}
			kids[at] = ast.Expr{Op: o, Kids: kids}
			if o == ast.Let || o == ast.Call {
				kids[at].Name = "f"
			}
			out = append(out, kids[at], op(ast.Not, op(ast.Not, kids[at])))
		}
	}
	return out
}

func TestEndless(t *testing.T) { // P1, P12.1, P12.2
	two := []ast.Param{{Name: "x", Base: 2}, {Name: "y", Base: 2}}
	for i, e := range endless() {
		c := context{p: ast.Program{Defs: []ast.Def{{Name: "f", Params: two, Base: 2, Clause: clause(e), Body: e}}}}
		c.wantForm(t, fmt.Sprint(i), e)
		if f := types.Check("own", c.p, nil); f != (lex.Fault{E: api.ErrForm}) {
			t.Error(i, f)
		}
		c.faces = []sig.Face{{Module: "m", Sigs: []sig.Sig{{Name: "f", Base: 1, Clause: clause(e)}}}}
		c.wantBase(t, fmt.Sprint(i), op(ast.If, call("", "f", yes, yes), call("m", "f"), num(1)), api.Int, lex.Fault{})
	}
}

func TestDeep(t *testing.T) { // P1, P12.1, P12.2
	defer debug.SetMaxStack(debug.SetMaxStack(1 << 20))
	const n = 100000
	for i, around := range []func(e ast.Expr) ast.Expr{
		func(e ast.Expr) ast.Expr { return op(ast.Neg, e) },
		func(e ast.Expr) ast.Expr { return op(ast.Sub, e, num(1)) },
		func(e ast.Expr) ast.Expr { return op(ast.Mul, num(1), e) },
		func(e ast.Expr) ast.Expr { return op(ast.If, yes, e, at(77, num(1))) },
		func(e ast.Expr) ast.Expr { return op(ast.If, yes, num(1), e) },
		func(e ast.Expr) ast.Expr { return op(ast.Assert, op(ast.Eq, num(1), e), name("x")) },
		func(e ast.Expr) ast.Expr { return call("", "f", yes, e) },
		func(e ast.Expr) ast.Expr { return let("y", num(1), e) },
		func(e ast.Expr) ast.Expr { return let("z", e, name("z")) },
	} {
		for _, inside := range []ast.Expr{name("x"), at(77, op(ast.Not, yes))} {
			body := inside
			for range n {
				body = around(body)
			}
			d := ast.Def{Name: "f", Params: []ast.Param{{Name: "y", Base: 2}, {Name: "x", Base: 1}}, Base: 1, Body: body, At: 5}
			want, base := lex.Fault{}, api.Int
			if inside.Op != ast.Var {
				want, base = lex.Fault{E: api.ErrType, At: 77}, 0
			}
			if i > 6 && base == 0 {
				// What a let is, or is in, may be of either base; the whole is a truth then.
				want, base = lex.Fault{E: api.ErrType, At: body.At}, api.Bool
			}
			if f := types.Check("own", ast.Program{Defs: []ast.Def{d}}, nil); f != want {
				t.Error(i, f, want)
			}
			if base == api.Bool {
				want = lex.Fault{}
			}
			c := context{p: ast.Program{Defs: []ast.Def{d}}, names: []string{"x"}, bases: []int{1}}
			c.wantBase(t, fmt.Sprint(i), body, base, want)
			d.Clause, d.Body = clause(op(ast.Gt, body, num(0))), num(1)
			if i < 3 {
				if f := types.Check("own", ast.Program{Defs: []ast.Def{d}}, nil); f != want {
					t.Error(i, f, want)
				}
			}
		}
	}
}

func TestManyLetsAndCalls(t *testing.T) { // P1, P12.1, P12.2
	const n = 20000
	long := op(ast.Eq, num(1), num(1))
	for range n {
		long = op(ast.And, long, yes)
	}
	l := []sig.Face{{Module: "m", Sigs: []sig.Sig{{Name: "g", Params: []sig.Slot{{Name: "x", Base: 1, Clause: clause(long)}}, Base: 1}}}}
	body := num(1)
	for i := range n {
		s := fmt.Sprint("x", i)
		body = let(s, call("m", "g", num(1)), op(ast.Add, name(s), body))
	}
	p := ast.Program{Imports: []ast.Import{{Name: "m"}}, Defs: []ast.Def{{Name: "f", Base: 1, Body: body}}}
	if f := types.Check("own", p, l); f != (lex.Fault{}) {
		t.Error(f)
	}
	c := context{p: p, faces: l, names: slices.Repeat([]string{"x0"}, n), bases: slices.Repeat([]int{2}, n)}
	c.wantBase(t, "lets", op(ast.Eq, op(ast.Lt, body, num(1)), name("x0")), api.Bool, lex.Fault{})
	c.wantBase(t, "lets, and one that is free again", op(ast.Eq, body, at(3, name("x0"))), 0, lex.Fault{E: api.ErrType, At: 3})
	c.wantForm(t, "lets, and one that isn't bound", op(ast.Eq, body, name("x1")))
}

func TestMemory(t *testing.T) { // P12.1, P12.2
	kids := append(make([]ast.Expr, 0, 9), name("x"), num(3))
	body := let("x", op(ast.Gt, kids...), call("m", "f", name("x")))
	body.Kids[0].Kids = kids
	one := append(make([]ast.Expr, 0, 5), op(ast.Eq, kids...))
	one[0].Kids = kids
	params := append(make([]ast.Param, 0, 5), ast.Param{Name: "x", Base: 1, Clause: one})
	defs := append(make([]ast.Def, 0, 5), ast.Def{Name: "f", Params: params, Base: 1, Clause: one, Body: body})
	p := ast.Program{Imports: append(make([]ast.Import, 0, 5), ast.Import{Name: "m"}), Defs: defs}
	slots := append(make([]sig.Slot, 0, 5), sig.Slot{Name: "y", Base: 2})
	sigs := append(make([]sig.Sig, 0, 5), sig.Sig{Name: "f", Params: slots, Base: 1})
	l := append(make([]sig.Face, 0, 5), sig.Face{Module: "m", Sigs: sigs})
	names, bases := append(make([]string, 0, 5), "x", "x"), append(make([]int, 0, 5), 2, 1)
	state := func() string {
		return fmt.Sprint(p.Imports[:5], p.Defs[:5], params[:5], one[:5], kids[:9], l[:5], sigs[:5], slots[:5], names[:5], bases[:5], body)
	}
	before := state()
	for range 2 {
		if f := types.Check("own", p, l); f != (lex.Fault{}) {
			t.Error(f)
		}
		if b, f := types.Base(p, l, names, bases, body); b != api.Int || f != (lex.Fault{}) {
			t.Error(b, f)
		}
		if b, f := types.Base(p, l, names, bases, op(ast.Not, at(4, body))); b != 0 || f != (lex.Fault{E: api.ErrType, At: 4}) {
			t.Error(b, f)
		}
	}
	if state() != before {
		t.Error("what was handed in was changed")
	}
}
