package types_test

import (
	"fmt"
	"slices"
	"strings"
	"testing"

	"touchstone/api"
	"touchstone/ast"
	"touchstone/lex"
	"touchstone/parse"
	"touchstone/scope"
	"touchstone/sig"
	"touchstone/types"
	"touchstone/zed"
)

// programOf is the program of a text.
func programOf(t *testing.T, s string) ast.Program {
	t.Helper()
	x, f := parse.Parse(s, api.MaxDepth)
	if f.E != api.OK {
		t.Fatalf("%.200q: %v", s, f)
	}
	out, e := ast.Of(x)
	if e != api.OK {
		t.Fatalf("%.200q: error %d", s, e)
	}
	return out
}

// faceOf is the face of a module with a text.
func faceOf(t *testing.T, module, s string) sig.Face {
	t.Helper()
	f, e := sig.FaceOf(module, programOf(t, s))
	if e != api.OK {
		t.Fatal(module, s, e)
	}
	return f
}

// faces are those that most of these tests look through programs with. That of odd has clauses that aren't as they must be.
func faces(t *testing.T) []sig.Face {
	return []sig.Face{
		faceOf(t, "n", "pub fun c():bool=true;pub fun k(x:int,y:bool):bool=y;"),
		faceOf(t, "m", "pub fun c():int=1;pub fun g(x:bool):int=1;pub fun h(x:bool,y:int):bool{res=>y>0}=x;"),
		faceOf(t, "odd", "pub fun g(x:int{x},y:bool{x+y}):int{res&&x}=x;"),
	}
}

// These make expressions.

func name(s string) ast.Expr { return ast.Expr{Op: ast.Var, Name: s} }

func num(n int) ast.Expr { return ast.Expr{Op: ast.Lit, Num: zed.From(n)} }

func op(op int, kids ...ast.Expr) ast.Expr { return ast.Expr{Op: op, Kids: kids} }

func let(s string, is, in ast.Expr) ast.Expr {
	return ast.Expr{Op: ast.Let, Name: s, Kids: []ast.Expr{is, in}}
}

func call(module, s string, kids ...ast.Expr) ast.Expr {
	return ast.Expr{Op: ast.Call, Module: module, Name: s, Kids: kids}
}

func at(place int, e ast.Expr) ast.Expr {
	e.At = place
	return e
}

func clause(e ast.Expr) []ast.Expr { return []ast.Expr{e} }

var (
	res = ast.Expr{Op: ast.Res}
	yes = ast.Expr{Op: ast.Truth, Yes: true}
)

// wantFault holds what a program of the module own is told of, at the `@` in its text; no fault, if there is none.
func wantFault(t *testing.T, marked string, e api.Errno) {
	t.Helper()
	ahead, behind, found := strings.Cut(marked, "@")
	want := lex.Fault{E: e}
	if found {
		want.At = len(ahead)
	}
	if found != (e != api.OK) {
		t.Fatal("a fault has a place:", marked)
	}
	if f := types.Check("own", programOf(t, ahead+behind), faces(t)); f != want {
		t.Errorf("%s: got %v, want error %d", marked, f, e)
	}
}

func TestFine(t *testing.T) { // P12.1
	for _, s := range []string{
		"",
		"import m;",
		"fun f():int=1;",
		"fun f():bool=true;",
		"fun f(x:int):int=x;",
		"fun f(x:bool):bool=x;",
		"fun f(x:int{x>0},y:bool{y=>x=1},z:int{z<x||y}):int{res=x||y}=z;",
		"fun f(x:bool{x}):bool{res}=x;",
		"fun f(x:bool{x=true}):int{(res>0)=x}=1;",
		"fun f(x:int{true}):bool{false}=x<>1;",
		"fun f(x:int):bool{res=(x>0)}=x>0;",
		"fun f(x:bool,y:int):bool=x=(y>1)&&not x<>(y=y);",
		"fun f(x:int):int=-x+x-x*x/x%x;",
		"fun f(x:int,y:bool):bool=x<x&&x<=x||x>x=>x>=x&&not y;",
		"fun f(x:bool):int=if x then 1 else 2;",
		"fun f(x:bool):bool=if x then x else not x;",
		"fun f(x:bool):int=(if x then 1 else 2)+(if x=x then 1 else 2);",
		"fun f(x:bool):int=let y=x in if y then 1 else 2;",
		"fun f(x:bool):int=let x=1 in x+(let x=true in if x then 1 else 2)+x;",
		"fun f(x:bool):bool=let y=let x=1 in x in x=(y=1);",
		"fun f(x:bool):bool=let x=if x then 1 else 2 in x=x;",
		"fun f(x:int):bool=assert x>0 in assert true in x=x;",
		"fun f(x:int):int=assert (assert true in x>0) in let y=x=x in x;",
		"fun f(x:int,y:bool):int=f(f(x,y),f(x,y)=x);fun g(x:bool):bool=g(x)||g(not x);",
		"fun f():int=if g(1) then f() else f();fun g(x:int):bool=x=f();",
		"import m;import n;fun c():int=m.c();fun d():bool=n.c();",
		"import m;fun f(x:bool):bool=m.h(m.h(x,m.g(x)),m.g(x)+1);",
		"import n;import m;fun f():bool=n.k(m.c(),n.c())=n.c();",
		"import odd;fun f():int=odd.g(1,true)+odd.g(odd.g(2,false),true);",
		"fun x(x:int):int=let f=x in x(f);",
		"pub fun f(a:int,b:bool,c:int,d:bool,e:int,g:bool,h:int,i:bool{i=>b}):bool=f(h,i,e,g,c,d,a,b);",
	} {
		wantFault(t, s, api.OK)
	}
}

func TestClauses(t *testing.T) { // P12.1
	for _, s := range []string{
		"fun f(x:int{@x}):int=x;",
		"fun f(x:int{@1}):int=x;",
		"fun f(x:int{ --x\n(@x)}):int=x;",
		"fun f(x:int{x@+1}):int=x;",
		"fun f(x:int{@-x}):int=x;",
		"fun f(x:bool{x},y:int{@y}):int=y;",
		"fun f(x:int{x>0},y:bool{@x}):int=x;",
		"fun f(x:int{x>0},y:bool{x@%2}):int=x;",
		"fun f(x:int):int{@res}=x;",
		"fun f(x:int):bool{@x}=x>0;",
		"fun f(x:int):int{res@-x}=x;",
		"fun f(x:int):int{@7}=x;",
		"fun f(x:int{x>0&&@x}):int=x;",
		"fun f(x:int{@x=>x>0}):int=x;",
		"fun f(x:int{not @x}):int=x;",
		"fun f(x:int,y:bool{@y>x}):int=x;",
		"fun f(x:int,y:bool{x=@y}):int=x;",
		"fun f(x:int,y:bool{y<>@x}):int=x;",
		"fun f(x:int):bool{@res>x}=true;",
		"fun f(x:int):bool{x>@res}=true;",
		"fun f(x:int):bool{res&&@x}=true;",
		"fun f(x:bool):int{res=@x}=1;",
		"fun f(x:bool):int{x=@res}=1;",
		"fun f(x:bool):int{not @res}=1;",
		"fun f(x:bool):bool{x=(res=(1+@res=2))}=x;",
	} {
		wantFault(t, s, api.ErrType)
	}
}

func TestBodies(t *testing.T) { // P12.1
	for _, s := range []string{
		"fun f(x:int):bool=@x;",
		"fun f(x:bool):int=@x;",
		"fun f():bool=@1;",
		"fun f():int=@true;",
		"fun f():int= --1\n ((@true));",
		"fun f(x:int):bool=x@+1;",
		"fun f(x:int):int=x@=1;",
		"fun f(x:int):int=x@<1;",
		"fun f(x:bool):int=@not x;",
		"fun f(x:bool):int=x@&&x;",
		"fun f(x:int):bool=@-x;",
		"fun f(x:bool):bool=@if x then 1 else 2;",
		"fun f(x:bool):int=@if x then x else x;",
		"fun f(x:int):int=@let x=true in x;",
		"fun f(x:bool):bool=@let y=x in let y=1 in y;",
		"fun f(x:int):int=@assert x=1 in true;",
		"fun f(x:int):int=f(x)@=1;",
		"fun f(x:int):int=@g(x);fun g(x:int):bool=x=1;",
		"fun f(x:int):int=f(x);fun g(x:int):bool=@f(x);",
		"import m;fun f():bool=@m.c();",
		"import n;fun f():int=@n.c();",
		"import m;fun c():bool=@m.c();",
	} {
		wantFault(t, s, api.ErrType)
	}
}

func TestInBodies(t *testing.T) { // P12.1
	for _, s := range []string{
		"fun f(x:bool):int=if 1 @+ 1 then 1 else 2;",
		"fun f(x:int):int=if @x then 1 else 2;",
		"fun f(x:bool):int=if x then 1 else @x;",
		"fun f(x:bool):bool=if x then x else @1;",
		"fun f(x:bool):bool=if x then 1 else @x;",
		"fun f(x:bool):int=if x then x else @1;",
		"fun f(x:bool):int=if x then 1 else 1@=1;",
		"fun f(x:bool):int=1+(@if x then x else x);",
		"fun f(x:bool):int=if (@if x then 1 else 2) then 1 else 2;",
		"fun f(x:bool):int=if x then (if x then 1 else @x) else x;",
		"fun f(x:int):int=assert @x in x;",
		"fun f(x:int):int=assert x@+1 in x;",
		"fun f(x:int):int=1+(@assert true in true);",
		"fun f(x:int):int=assert (@assert true in 1) in 1;",
		"fun f(x:int):int=let y=x+@true in y;",
		"fun f(x:int):int=let x=true in @x+1;",
		"fun f(x:int):int=let x=true in 1+(let x=1 in x)+@x;",
		"fun f(x:int):int=(let x=true in 1)+x+(@let x=true in x);",
		"fun f(x:bool):int=(let x=1 in x)+@x;",
		"fun f(x:bool):int=let y=let x=1 in x in y+@x;",
		"fun f(x:bool):int=let x=(let x=1 in not @x) in 1;",
		"fun f(x:int):int=let x=x=1 in let y=x in @y+1;",
		"fun f(x:int):int=f(@true);",
		"fun f(x:int,y:bool):int=f(1,@1);",
		"fun f(x:int,y:bool):int=f(@y,y);",
		"fun f(x:int,y:bool):int=f(@y,x);",
		"fun f(x:int,y:bool):int=f(f(1,true),@f(1,true));",
		"fun f(x:int,y:bool):int=f(f(1,@x),x);",
		"fun f(x:int):int=f(x@=x);",
		"fun f(x:int):int=f(@if true then true else false);",
		"fun f(x:int):int=f(@let x=true in x);",
		"fun f():int=g(@1);fun g(x:bool):int=1;",
		"fun f():int=g(1,true,2,@3);fun g(x:int,y:bool,z:int,a:bool):int=1;",
		"fun f():bool=not @f2();fun f2():int=1;",
		"import m;fun f(x:int):int=m.g(@x);",
		"import m;fun f(x:int):bool=m.h(true,@true);",
		"import m;fun f(x:int):bool=m.h(@1,true);",
		"import m;fun f(x:int):bool=m.h(m.h(true,1),@m.h(true,1));",
		"import m;import n;fun f():bool=n.k(@n.c(),n.c());",
		"import m;import n;fun f():bool=n.k(m.c(),@m.c());",
		"import m;fun g(x:int):int=g(m.g(@1));",
		"import m;fun g(x:int):int=m.g(@g(1));",
		"import odd;fun f():int=odd.g(1,@2);",
		"fun f():int=-@true;",
		"fun f():bool=not @1;",
		"fun f():int=1+-(-(@true));",
		"fun f():bool=not not not @1;",
	} {
		wantFault(t, s, api.ErrType)
	}
}

// signs are those of two kids: of which these must be, i numbers, b truths, or else just alike, and which comes.
var signs = map[string]struct{ kids, result string }{
	"+": {"i", "i"}, "-": {"i", "i"}, "*": {"i", "i"}, "/": {"i", "i"}, "%": {"i", "i"},
	"<": {"i", "b"}, "<=": {"i", "b"}, ">": {"i", "b"}, ">=": {"i", "b"},
	"=": {"", "b"}, "<>": {"", "b"},
	"&&": {"b", "b"}, "||": {"b", "b"}, "=>": {"b", "b"},
}

func TestEachSign(t *testing.T) { // P12.1
	bases := map[string]string{"i": "int", "b": "bool"}
	for sign, want := range signs {
		for _, first := range []string{"i", "b"} {
			for _, second := range []string{"i", "b"} {
				for _, result := range []string{"i", "b"} {
					text := []string{first, sign, second}
					e := api.ErrType
					switch {
					case want.kids != "" && first != want.kids:
						text[0] = "@" + text[0]
					case first != second:
						text[2] = "@" + text[2]
					case result != want.result:
						text[1] = "@" + text[1]
					default:
						e = api.OK
					}
					wantFault(t, "fun f(i:int,b:bool):"+bases[result]+"="+strings.Join(text, " ")+";", e)
				}
			}
		}
	}
}

func TestOrderOfFaults(t *testing.T) { // P12.1
	for _, s := range []string{
		// Of kids the first one, and what is in it, comes ahead of what is in the second one.
		"fun f():int=@true+(1+true);",
		"fun f():int=(1+@true)+true;",
		"fun f():int=(1@<2)+(1+true);",
		"fun f():int=(1+2)+(1+@true);",
		"fun f():int=-(@true+-true);",
		"fun f():bool=not(not @1&&not 1);",
		"fun f():bool=(1=@true)=(2=true);",
		"fun f():bool=(1=1)=(2+@true);",
		"fun f():bool=(1=1)=(2@+3);",
		"fun f():bool=(1=1)<>(2@+3)&&1;",
		// What an expression is itself comes behind all that is in it.
		"fun f():bool=1+@true;",
		"fun f():int=not @1;",
		"fun f():int=if @1 then 1+true else true;",
		"fun f():int=if not @1 then true else 1;",
		"fun f():int=if true then 1+@true else -true;",
		"fun f():int=if true then 1 else -@true;",
		"fun f():int=if true then true else -@true;",
		"fun f():int=if true then true else @1;",
		"fun f():int=let x=-@true in not 1;",
		"fun f():int=let x=true in not @1;",
		"fun f():int=assert @1 in not 1;",
		"fun f():int=assert not @1 in not 1;",
		"fun f():int=assert true in not @1;",
		"fun f(x:int,y:int,z:int):bool=f(1,@true,-true);",
		"fun f(x:int,y:int,z:int):bool=f(1,-@true,true);",
		"fun f(x:int,y:int,z:int):bool=f(@true,-true,true);",
		"fun f(x:int,y:int,z:int):int=f(1,2,@true)+true;",
		// Parameters' clauses, then the result's, then the body, of each definition.
		"fun f(x:int{@x},y:bool{y+1}):int{x}=y;",
		"fun f(x:int{x=x},y:bool{@y+1}):int{x}=y;",
		"fun f(x:int{x=x},y:bool{y}):int{@x}=y;",
		"fun f(x:int{x=x},y:bool{y}):int{x=x}=@y;",
		"fun f(x:int{x@+2}):int=x;",
		"fun f(x:int{-(x=@true)}):int{x}=x;",
		"fun f(x:int):bool{@res+1}=1;",
		"fun f(x:int):int=@true;fun g(x:int{x}):bool{1}=x;",
		"fun f(x:int):int=1;fun g(x:int{@x}):bool{1}=x;fun h():bool=1;",
		"fun f(x:int):int=g(@true);fun g(x:int{x}):int=1;",
		"fun f(x:int):int=g(x);fun g(x:int{@x}):int=1;",
	} {
		wantFault(t, s, api.ErrType)
	}
	// The Ats play no part in the order, and are told as they are.
	p := programOf(t, "fun f(x:int):int=(x+true)+true;")
	sum := &p.Defs[0].Body.Kids[0]
	sum.At, sum.Kids[1].At, p.Defs[0].Body.Kids[1].At = -1, 99, -7
	for i, want := range []int{99, -7} {
		if f := types.Check("own", p, nil); f != (lex.Fault{E: api.ErrType, At: want}) {
			t.Error(i, f)
		}
		sum.Kids[1].Op, sum.Kids[1].Yes = ast.Lit, false
	}
	p.Defs[0].Body = at(-1<<63, yes)
	if f := types.Check("own", p, nil); f != (lex.Fault{E: api.ErrType, At: -1 << 63}) {
		t.Error(f)
	}
}

func TestNamesComeFirst(t *testing.T) { // P12.1
	for s, e := range map[string]api.Errno{
		"import @own;fun f():int=true;":                          api.ErrModule,
		"import m;import @m;fun f():int=true;":                   api.ErrTwice,
		"fun f():int=true;fun @f():int=1;":                       api.ErrTwice,
		"fun f(x:int{x},@x:int):int=true;":                       api.ErrTwice,
		"fun f(x:int{x}):int{x}=-true+@y;":                       api.ErrName,
		"fun f(x:int{x}):int{x}=true;fun g():int=@y;":            api.ErrName,
		"fun f(x:int{x&&@res}):int=true;":                        api.ErrName,
		"fun f(x:int):int=f(true)+f(@g(not 1));":                 api.ErrName,
		"fun f(x:int):int=f(true)+@f(1,2);":                      api.ErrArity,
		"fun f(x:int):int=f(true)+@m.g(1);":                      api.ErrModule,
		"import m;fun f(x:int):int=f(true)+@m.none();":           api.ErrName,
		"import m;fun f(x:int):int=f(true)+@m.g();":              api.ErrArity,
		"import m;fun f(x:int):int=f(@true)+m.g(1);":             api.ErrType,
		"fun f(x:int{x}):int=1;fun g():int=1;fun @g():int=true;": api.ErrTwice,
	} {
		wantFault(t, s, e)
	}
}

func TestWhatLayerElevenRefuses(t *testing.T) { // P12.1
	p := programOf(t, "fun f():int=true;")
	fine := faces(t)
	program := func(d ast.Def) ast.Program { return ast.Program{Defs: []ast.Def{p.Defs[0], d}} }
	with := func(f sig.Face) []sig.Face { return slices.Concat(fine, []sig.Face{f}) }
	for i, x := range []struct {
		module string
		p      ast.Program
		faces  []sig.Face
	}{
		{"", p, fine}, {"let", p, fine}, {"x y", p, nil}, {strings.Repeat("x", api.MaxName+1), p, nil},
		{"own", p, with(fine[0])}, {"own", p, with(sig.Face{})}, {"own", p, with(sig.Face{Module: "w", Sigs: []sig.Sig{{Name: "f"}}})},
		{"own", program(ast.Def{}), nil},
		{"own", program(ast.Def{Name: "g", Base: 3, Body: num(1)}), nil},
		{"own", program(ast.Def{Name: "g", Base: 1, Body: res}), nil},
		{"own", program(ast.Def{Name: "g", Base: 1, Body: op(ast.Add, num(1))}), nil},
		{"own", program(ast.Def{Name: "g", Base: 1, Body: num(-1)}), nil},
		{"own", program(ast.Def{Name: "g", Base: 1, Clause: []ast.Expr{yes, yes}, Body: num(1)}), nil},
		{"own", ast.Program{Imports: make([]ast.Import, 1), Defs: p.Defs}, nil},
		{"own", ast.Program{Defs: slices.Repeat(p.Defs, api.MaxDefs+1)}, nil},
	} {
		if f := types.Check(x.module, x.p, x.faces); f != (lex.Fault{E: api.ErrForm}) || scope.Check(x.module, x.p, x.faces) != f {
			t.Error(i, f)
		}
	}
	// The name of the module and the faces of others change nothing else.
	for _, module := range []string{"x", "f", strings.Repeat("x", api.MaxName)} {
		if f := types.Check(module, p, fine); f != (lex.Fault{E: api.ErrType, At: 12}) {
			t.Error(module, f)
		}
	}
	for i := range fine {
		l := slices.Concat(fine[i:], fine[:i])
		s := programOf(t, "import m;fun f():int=m.g(n(m.c()));fun n(x:int):bool=c();fun c():bool=true;")
		if f := types.Check("own", s, l); f != (lex.Fault{}) {
			t.Error(i, f)
		}
	}
}

func TestLimits(t *testing.T) { // P12.1
	var l []sig.Face
	var p ast.Program
	for i := range api.MaxImports {
		l = append(l, faceOf(t, fmt.Sprint("m", i), "pub fun g(x:"+[]string{"int", "bool"}[i%2]+"):bool=true;"))
		p.Imports = append(p.Imports, ast.Import{Name: fmt.Sprint("m", i)})
	}
	given := []ast.Expr{num(1), yes}
	for i := range api.MaxDefs {
		d := ast.Def{Name: fmt.Sprint("f", i), Base: 2, Body: call(fmt.Sprint("m", i%api.MaxImports), "g", at(100+i, given[i%2]))}
		for j := range api.MaxParams {
			d.Params = append(d.Params, ast.Param{Name: fmt.Sprint("x", j), Base: 1 + j%2, Clause: clause(op(ast.Eq, name(fmt.Sprint("x", j)), at(1000+10*i+j, given[j%2])))})
		}
		p.Defs = append(p.Defs, d)
	}
	if f := types.Check("own", p, l); f != (lex.Fault{}) {
		t.Fatal(f)
	}
	last := &p.Defs[api.MaxDefs-1]
	last.Body.Kids[0].Op, last.Body.Kids[0].Yes = ast.Lit, false
	if f := types.Check("own", p, l); f != (lex.Fault{E: api.ErrType, At: 100 + api.MaxDefs - 1}) {
		t.Error(f)
	}
	second := &last.Params[api.MaxParams-1].Clause[0].Kids[1]
	second.Op, second.Yes = ast.Lit, false
	if f := types.Check("own", p, l); f != (lex.Fault{E: api.ErrType, At: 1000 + 10*(api.MaxDefs-1) + api.MaxParams - 1}) {
		t.Error(f)
	}
}

func TestNothingGiven(t *testing.T) { // P1, P12.1, P12.2
	if f := types.Check("own", ast.Program{}, nil); f != (lex.Fault{}) {
		t.Error(f)
	}
	if f := types.Check("own", ast.Program{Imports: []ast.Import{}, Defs: []ast.Def{}}, []sig.Face{}); f != (lex.Fault{}) {
		t.Error(f)
	}
	if f := types.Check("", ast.Program{}, nil); f != (lex.Fault{E: api.ErrForm}) {
		t.Error(f)
	}
	if b, f := types.Base(ast.Program{}, nil, nil, nil, ast.Expr{}); b != 0 || f != (lex.Fault{E: api.ErrForm}) {
		t.Error(b, f)
	}
	if b, f := types.Base(ast.Program{}, []sig.Face{}, []string{}, []int{}, num(0)); b != api.Int || f != (lex.Fault{}) {
		t.Error(b, f)
	}
}
