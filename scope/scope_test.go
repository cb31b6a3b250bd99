package scope_test

import (
	"fmt"
	"reflect"
	"runtime/debug"
	"slices"
	"strings"
	"testing"

	"touchstone/api"
	"touchstone/ast"
	"touchstone/lex"
	"touchstone/parse"
	"touchstone/scope"
	"touchstone/sig"
	"touchstone/zed"
)

// programOf is the program of a text.
func programOf(t *testing.T, s string) ast.Program {
	t.Helper()
	x, f := parse.Parse(s, api.MaxDepth)
	if f.E != api.OK {
		t.Fatalf("%.200q: %v", s, f)
	}
	out, e := ast.Of(x)
	if e != api.OK {
		t.Fatalf("%.200q: error %d", s, e)
	}
	return out
}

// faceOf is the face of a module with a text.
func faceOf(t *testing.T, module, s string) sig.Face {
	t.Helper()
	f, e := sig.FaceOf(module, programOf(t, s))
	if e != api.OK {
		t.Fatal(module, s, e)
	}
	return f
}

// faces are those that most of these tests look through programs with.
func faces(t *testing.T) []sig.Face {
	return []sig.Face{
		faceOf(t, "n", "pub fun none():int=1;pub fun g(x:int,y:int):int=1;"),
		faceOf(t, "m", "pub fun g(x:int):int=1;pub fun h(x:bool{x},y:int):bool{res=>y>0}=true;fun hidden():int=1;"),
		faceOf(t, "own", "pub fun f():int=1;"),
		faceOf(t, "empty", ""),
	}
}

// These make expressions.

func name(s string) ast.Expr { return ast.Expr{Op: ast.Var, Name: s} }

func num(n int) ast.Expr { return ast.Expr{Op: ast.Lit, Num: zed.From(n)} }

func op(op int, kids ...ast.Expr) ast.Expr { return ast.Expr{Op: op, Kids: kids} }

func let(s string, is, in ast.Expr) ast.Expr {
	return ast.Expr{Op: ast.Let, Name: s, Kids: []ast.Expr{is, in}}
}

func call(module, s string, kids ...ast.Expr) ast.Expr {
	return ast.Expr{Op: ast.Call, Module: module, Name: s, Kids: kids}
}

func clause(e ast.Expr) []ast.Expr { return []ast.Expr{e} }

var res = ast.Expr{Op: ast.Res}

// wantFault holds what a program of the module own is told of, at the `@` in its text; no fault, if there is none.
func wantFault(t *testing.T, marked string, e api.Errno) {
	t.Helper()
	ahead, behind, _ := strings.Cut(marked, "@")
	want := lex.Fault{E: e}
	if e != api.OK {
		want.At = len(ahead)
	}
	if strings.Contains(marked, "@") != (e != api.OK) {
		t.Fatal("a fault has a place:", marked)
	}
	if f := scope.Check("own", programOf(t, ahead+behind), faces(t)); f != want {
		t.Errorf("%s: got %v, want error %d", marked, f, e)
	}
}

func TestFine(t *testing.T) { // P11.1
	for _, s := range []string{
		"",
		"import m;",
		"import m;import n;import empty;",
		"fun f():int=1;",
		"fun f(f:int{f>0}):int{res>f}=f;",
		"fun f(x:int):int=x;fun g(x:int,y:int{x>y}):bool{res}=x=y;pub fun F(X:int):int=X;",
		"fun f(x:int{x>0},y:int{y>x},z:bool{z=>x+y>0}):int{res>x+y||z}=x;",
		"fun f():int{res>0}=1;",
		"fun f():bool{not(not res&&-res=res)}=true;",
		"fun f():int=f();",
		"fun f():int=g();fun g():int=f();",
		"fun f():int=let x=1 in x;",
		"fun f(x:int):int=let x=x in x;",
		"fun f():int=let x=1 in let x=x+1 in let y=x in x+y;",
		"fun f(x:int):int=(let x=1 in x)+x;",
		"fun f(x:int):int=let y=let y=x in y in y;",
		"fun f():int=let f=1 in f()+f;",
		"fun f(x:int):int=if x>0 then f(f(x-1)) else assert x=0 in x;",
		"import m;fun f(m:int):int=m.g(m);",
		"import m;import n;fun g():int=m.g(g())+n.g(1,n.none());",
		"import m;fun f(x:int):bool=m.h(m.h(true,f(x)),m.g(m.g(x)));",
		"import empty;fun m(n:int):int=n;",
		"fun f(a:int,b:int,c:int,d:int,e:int,g:int,h:int,i:int{a+b+c+d+e+g+h+i>0}):int=f(i,h,g,e,d,c,b,a);",
	} {
		wantFault(t, s, api.OK)
	}
}

func TestImports(t *testing.T) { // P11.1
	for s, e := range map[string]api.Errno{
		"import @own;":                            api.ErrModule,
		"import m;import @own;":                   api.ErrModule,
		"import m;import n;import @own;import q;": api.ErrModule,
		"import m;import @m;":                     api.ErrTwice,
		"import m;import n;import @m;":            api.ErrTwice,
		"import m;import n;import  @n;import m;":  api.ErrTwice,
		"import m;import @m;import own;":          api.ErrTwice,
		"import @q;":                              api.ErrModule,
		"import @M;":                              api.ErrModule,
		"import @g;fun g():int=1;":                api.ErrModule,
		"import m;import @q;import m;":            api.ErrModule,
		"import @q;import q;":                     api.ErrModule,
		"import --m;\n @own;":                     api.ErrModule,
	} {
		wantFault(t, s, e)
	}
	// Without a face of the own module it is the own one still; a face of what isn't imported plays no part.
	p := programOf(t, "import own;")
	if f := scope.Check("own", p, nil); f != (lex.Fault{E: api.ErrModule, At: 7}) {
		t.Error(f)
	}
	if f := scope.Check("other", p, faces(t)); f != (lex.Fault{}) {
		t.Error(f)
	}
	if f := scope.Check("other", p, nil); f != (lex.Fault{E: api.ErrModule, At: 7}) {
		t.Error(f)
	}
}

func TestDefinitions(t *testing.T) { // P11.1
	for s, e := range map[string]api.Errno{
		"fun f():int=1;fun @f():int=1;":                                             api.ErrTwice,
		"fun f():int=1;pub fun @f(x:bool):bool=x;":                                  api.ErrTwice,
		"fun f():int=1;fun g():int=1;fun h():int=1;fun @g():int=1;":                 api.ErrTwice,
		"fun f():int=1;fun g():int=1;fun @g():int=1;fun f():int=1;fun f():int=1;":   api.ErrTwice,
		"import m;fun m():int=1;fun @m():int=1;":                                    api.ErrTwice,
		"fun f():int=1;fun g():int=1;pub fun @f():int=1;":                           api.ErrTwice,
		"fun f():int=1;fun F():int=1;fun ff():int=1;fun f_():int=1;fun @F():int=1;": api.ErrTwice,
	} {
		wantFault(t, s, e)
	}
}

func TestParameters(t *testing.T) { // P11.1
	for s, e := range map[string]api.Errno{
		"fun f(x:int,@x:int):int=1;":                                       api.ErrTwice,
		"fun f(x:int,y:int,z:int,@y:bool,x:int):int=1;":                    api.ErrTwice,
		"fun f(x:int):int=1;fun g(x:int):int=1;fun h(x:int,@x:int):int=1;": api.ErrTwice,
		"fun f(x:int,x2:int,X:int,@x:int):int=1;":                          api.ErrTwice,
		"fun f(f:int,@f:int):int=1;":                                       api.ErrTwice,
	} {
		wantFault(t, s, e)
	}
}

func TestNamesInClauses(t *testing.T) { // P11.1
	for _, s := range []string{
		"fun f(x:int{@y>0},y:int):int=1;",
		"fun f(x:int{x>0&&not @y>z},y:int,z:int):int=1;",
		"fun f(x:int,y:int{x+-@z>y},z:int):int=1;",
		"fun f(x:int{@f>0}):int=1;",
		"fun f(x:int{x>0=>@X>0}):int=1;",
		"fun f(x:int{@res>0}):int=1;",
		"fun f(x:int,y:int{y>x||x>y-@res}):int{res>0}=1;",
		"fun f(x:bool{not @res}):int=1;",
		"fun f(x:int):int{@y>0}=1;",
		"fun f(x:int):int{res>x&&res>@f}=1;",
		"fun f():int{@x>0}=let x=1 in x;",
		"fun f(x:int):int=1;fun g():int{@x>0}=1;",
		"fun f(x:int):int=1;fun g(y:int{@x>0}):int=1;",
		"import m;fun f(x:int{@m>0}):int=1;",
	} {
		wantFault(t, s, api.ErrName)
	}
}

func TestNamesInBodies(t *testing.T) { // P11.1
	for _, s := range []string{
		"fun f(x:int):int=@y;",
		"fun f():int=@f;",
		"fun f():int=@g;fun g():int=1;",
		"fun f(x:int):int=x+1-(2*@X);",
		"fun f(x:int):int=x;fun g():int=@x;",
		"import m;fun f():int=@m;",
		"fun f():int=let z=@z in z;",
		"fun f():int=(let z=1 in z)+@z;",
		"fun f():int=let x=(let y=1 in y) in @y;",
		"fun f():int=let x=(let x=1 in @y) in x;",
		"fun f():int=let x=1 in let y=x+@y in y;",
		"fun f():int=(let x=1 in let x=2 in x)+@x;",
		"fun f():int=if @a then b else c;",
		"fun f():int=if true then @b else c;",
		"fun f():int=if true then 1 else @c;",
		"fun f():int=if (let c=true in c) then (let c=1 in c) else @c;",
		"fun f():int=assert @a in b;",
		"fun f():int=assert true in @b;",
		"fun f(x:int):int=f(f(let y=1 in y)+@y);",
		"fun f():int=-(-@x);",
		"fun f():bool=not @x;",
	} {
		wantFault(t, s, api.ErrName)
	}
	for _, sign := range []string{"+", "-", "*", "/", "%", "=", "<>", "<", "<=", ">", ">=", "&&", "||", "=>"} {
		wantFault(t, "fun f(a:int):int=a"+sign+"a;", api.OK)
		wantFault(t, "fun f(a:int):int=@x"+sign+"y;", api.ErrName)
		wantFault(t, "fun f(a:int):int=a"+sign+"@y;", api.ErrName)
		wantFault(t, "fun f(a:int{@x"+sign+"y}):int=a;", api.ErrName)
		wantFault(t, "fun f(a:int):int{a"+sign+"@y}=a;", api.ErrName)
	}
}

func TestCalls(t *testing.T) { // P11.1
	for s, e := range map[string]api.Errno{
		"fun f():int=@g();":                                          api.ErrName,
		"fun f():int=@F();":                                          api.ErrName,
		"fun f(x:int):int=@x();":                                     api.ErrName,
		"fun f():int=let g=1 in @g();":                               api.ErrName,
		"import m;fun f():int=@g(1);":                                api.ErrName,
		"import m;fun f():int=@m(1);":                                api.ErrName,
		"fun f():int=@f(1);":                                         api.ErrArity,
		"fun f(x:int):int=@f();":                                     api.ErrArity,
		"fun f(x:int,y:int):int=f(f(1,2),@f(1));":                    api.ErrArity,
		"fun f(x:int,y:int):int=f(f(1,2),@f(1,2,3));":                api.ErrArity,
		"fun f(x:int):int=@g(1);fun g():int=1;":                      api.ErrArity,
		"fun f():int=@m.g(1);":                                       api.ErrModule,
		"import n;fun f():int=@m.g(1);":                              api.ErrModule,
		"import n;fun f():int=n.none()+@m.g();":                      api.ErrModule,
		"fun f():int=@own.f();":                                      api.ErrModule,
		"fun f():int=@q.f();":                                        api.ErrModule,
		"fun f():int=@f.f();":                                        api.ErrModule,
		"import m;fun f():int=@m.hidden();":                          api.ErrName,
		"import m;fun f():int=@m.f();":                               api.ErrName,
		"import m;import n;fun f():int=@m.none();":                   api.ErrName,
		"import empty;import n;fun f():int=@empty.none();":           api.ErrName,
		"import m;fun f():int=@m.g();":                               api.ErrArity,
		"import m;fun f():int=@m.g(1,2);":                            api.ErrArity,
		"import m;import n;fun f():int=m.g(@n.g(1));":                api.ErrArity,
		"import m;fun g(x:int,y:int):int=g(1,@m.g(1,2));":            api.ErrArity,
		"import m;fun g(x:int,y:int):int=m.g(@g(1));":                api.ErrArity,
		"import m;fun f():int=@m.g(y,1);":                            api.ErrArity,
		"import m;fun f():int=m.g(@y);":                              api.ErrName,
		"fun f(x:int):int=@g(y,f());":                                api.ErrName,
		"fun f(x:int):int=f(@y)+f();":                                api.ErrName,
		"fun f(x:int):int=if @f() then y else q.g();":                api.ErrArity,
		"fun f(x:int):int=let y=@f() in z;":                          api.ErrArity,
		"fun f(x:int):int=f(1)+f(let f=1 in f)+f(assert @g() in 1);": api.ErrName,
	} {
		wantFault(t, s, e)
	}
}

func TestCallsOfEachCount(t *testing.T) { // P11.1
	params := func(n int, pattern string) string {
		var out []string
		for i := range n {
			out = append(out, strings.Replace(pattern, "?", fmt.Sprint(i), 1))
		}
		return strings.Join(out, ",")
	}
	for has := range api.MaxParams + 1 {
		head := "fun f(" + params(has, "x?:int") + "):int="
		l := []sig.Face{faceOf(t, "m", "pub "+head+"1;")}
		for given := range api.MaxParams + 1 {
			for _, text := range []string{head + "f(", "import m;fun g():int=m.f("} {
				want := lex.Fault{E: api.ErrArity, At: strings.LastIndex(text, "=") + 1}
				if has == given {
					want = lex.Fault{}
				}
				if f := scope.Check("own", programOf(t, text+params(given, "?")+");"), l); f != want {
					t.Errorf("%s.. with %d: got %v", text, given, f)
				}
			}
		}
	}
}

func TestOrderOfFaults(t *testing.T) { // P11.1
	// What is wrong stands ahead in the program's order, not always in the text's.
	for s, e := range map[string]api.Errno{
		"import @q;fun f():int=x;fun f():int=1;":                 api.ErrModule,
		"fun f(x:int,x:int{res>y}):int{z>0}=g();fun @f():int=1;": api.ErrTwice,
		"fun f():int=1;fun g():int=@x;fun h(x:int,x:int):int=1;": api.ErrName,
		"fun f(x:int{@y>0},x:int):int=1;":                        api.ErrName,
		"fun f(x:int,@x:int{y>0}):int=1;":                        api.ErrTwice,
		"fun f(x:int,@x:int{res>0}):int{y>0}=z;":                 api.ErrTwice,
		"fun f(x:int{@res>y}):int{y>0}=z;":                       api.ErrName,
		"fun f(x:int,y:int{x>0=>@z>res},x:int):int{y>0}=z;":      api.ErrName,
		"fun f(x:int):int{@y>0}=z;":                              api.ErrName,
		"fun f(x:int):int{x>0}=@z;fun g(x:int{y>0}):int=1;":      api.ErrName,
		"fun f(x:int):int{x>0}=z;fun @f(x:int{y>0}):int=1;":      api.ErrTwice,
		"fun f():int=@q.g(x)+g(y);":                              api.ErrModule,
		"fun f():int=let x=@f(x) in y;":                          api.ErrArity,
		"fun f():int=@a+f(1);":                                   api.ErrName,
		"fun f():int=(1+@f(1))*a;":                               api.ErrArity,
		"fun f():int=f()-(f()+@f(b)-a)*a;":                       api.ErrArity,
	} {
		wantFault(t, s, e)
	}
	// The Ats play no part in the order, and are told as they are.
	p := programOf(t, "fun f(x:int):int=y+z;")
	p.Defs[0].Body.Kids[0].At, p.Defs[0].Body.Kids[1].At = 99, -7
	if f := scope.Check("own", p, nil); f != (lex.Fault{E: api.ErrName, At: 99}) {
		t.Error(f)
	}
	p.Defs[0].Params[0].Name, p.Defs[0].Body.Kids[0].Name = "z", "z"
	p.Defs[0].Body.Kids[1].Name = "x"
	if f := scope.Check("own", p, nil); f != (lex.Fault{E: api.ErrName, At: -7}) {
		t.Error(f)
	}
	p.Defs = append(p.Defs, p.Defs[0])
	p.Defs[1].At = -1 << 63
	if f := scope.Check("own", p, nil); f != (lex.Fault{E: api.ErrTwice, At: -1 << 63}) {
		t.Error(f)
	}
	p.Imports = []ast.Import{{Name: "m", At: -2}, {Name: "m", At: -3}}
	if f := scope.Check("own", p, faces(t)); f != (lex.Fault{E: api.ErrTwice, At: -3}) {
		t.Error(f)
	}
}

// wantForm holds that Check tells of ErrForm.
func wantForm(t *testing.T, what, module string, p ast.Program, l []sig.Face) {
	t.Helper()
	if f := scope.Check(module, p, l); f != (lex.Fault{E: api.ErrForm}) {
		t.Errorf("%s: got %v", what, f)
	}
}

func TestModulesName(t *testing.T) { // P11.1
	// What else is wrong plays no part then.
	programs := []ast.Program{{}, programOf(t, "import q;fun f(x:int,x:int):int=y;fun f():int=1;")}
	for _, module := range append(lex.Keys(), "", " ", "_", "_x", "9", "9x", "x y", " x", "x ", "x\n", "x.y", "x--", "é", "\xff", "x\x00", strings.Repeat("x", api.MaxName+1), strings.Repeat("x", 1000000)) {
		for _, p := range programs {
			wantForm(t, fmt.Sprintf("module %.50q", module), module, p, faces(t))
			wantForm(t, fmt.Sprintf("module %.50q", module), module, p, nil)
		}
	}
	for _, module := range []string{"x", "Z", "x_", "a9_B", "lets", "Res", strings.Repeat("x", api.MaxName)} {
		if f := scope.Check(module, programOf(t, "import m;fun f():int=m.g(1);"), faces(t)); f != (lex.Fault{}) {
			t.Error(module, f)
		}
		p := programOf(t, "import m;import "+module+";")
		if f := scope.Check(module, p, faces(t)); f != (lex.Fault{E: api.ErrModule, At: 16}) {
			t.Error(module, f)
		}
	}
}

// def is a definition with this body.
func def(body ast.Expr) ast.Def { return ast.Def{Name: "f", Base: 1, Body: body, At: 5} }

func TestWrongPrograms(t *testing.T) { // P11.1
	x, one := name("x"), num(1)
	with := func(change func(d *ast.Def)) ast.Def {
		d := def(one)
		d.Params = []ast.Param{{Name: "x", Base: 1}}
		change(&d)
		return d
	}
	// Each is told of as ErrForm, though each has another fault ahead.
	for i, d := range []ast.Def{
		{},
		{Name: "let", Base: 1, Body: one},
		{Name: "f", Base: 3, Body: one},
		{Name: "f", Base: 1},
		def(res), def(op(ast.Add, one)), def(op(ast.If, one, one)), def(op(99)), def(op(-1)), def(num(-1)), def(name("")), def(name("x.y")),
		def(let("1", one, one)), def(op(ast.Let, one, one)), def(call("", "")), def(call("m", "")), def(call("9", "f")),
		def(call("", "f", slices.Repeat(clause(one), api.MaxParams+1)...)),
		def(ast.Expr{Op: ast.Var, Name: "x", Module: "m"}), def(ast.Expr{Op: ast.Truth, Kids: clause(one)}),
		with(func(d *ast.Def) { d.Params[0].Name = "in" }),
		with(func(d *ast.Def) { d.Params[0].Base = 0 }),
		with(func(d *ast.Def) { d.Params[0].Clause = []ast.Expr{x, x} }),
		with(func(d *ast.Def) { d.Params[0].Clause = clause(call("", "f", one)) }),
		with(func(d *ast.Def) { d.Params[0].Clause = clause(let("x", one, x)) }),
		with(func(d *ast.Def) { d.Clause = []ast.Expr{x, x} }),
		with(func(d *ast.Def) { d.Clause = clause(op(ast.If, x, x, x)) }),
		with(func(d *ast.Def) { d.Clause = clause(op(ast.Not, op(ast.Assert, x, x))) }),
		with(func(d *ast.Def) { d.Params = slices.Repeat(d.Params, api.MaxParams+1) }),
	} {
		wantForm(t, fmt.Sprint("alone ", i), "own", ast.Program{Defs: []ast.Def{d}}, nil)
		wantForm(t, fmt.Sprint("behind a fault ", i), "own", ast.Program{Imports: []ast.Import{{Name: "own", At: 3}}, Defs: []ast.Def{def(x), def(x), d}}, faces(t))
	}
	for _, s := range []string{"", "let", "x y", "1"} {
		wantForm(t, s, "own", ast.Program{Imports: []ast.Import{{Name: "own", At: 3}, {Name: s, At: 4}}}, faces(t))
	}
}

func TestLimits(t *testing.T) { // P11.1
	var l []sig.Face
	var p ast.Program
	for i := range api.MaxImports {
		l = append(l, faceOf(t, fmt.Sprint("m", i), "pub fun g():int=1;"))
		p.Imports = append(p.Imports, ast.Import{Name: fmt.Sprint("m", i), At: i})
	}
	for i := range api.MaxDefs {
		d := def(op(ast.Add, call(fmt.Sprint("m", i%api.MaxImports), "g"), call("", fmt.Sprint("f", api.MaxDefs-1-i))))
		d.Name, d.At = fmt.Sprint("f", i), 100+i
		p.Defs = append(p.Defs, d)
	}
	if f := scope.Check("own", p, l); f != (lex.Fault{}) {
		t.Error(f)
	}
	last := p.Defs[api.MaxDefs-1]
	p.Defs[api.MaxDefs-1].Name = "f7"
	if f := scope.Check("own", p, l); f != (lex.Fault{E: api.ErrTwice, At: 100 + api.MaxDefs - 1}) {
		t.Error(f)
	}
	p.Imports[api.MaxImports-1].Name = "m7"
	if f := scope.Check("own", p, l); f != (lex.Fault{E: api.ErrTwice, At: api.MaxImports - 1}) {
		t.Error(f)
	}
	p.Imports[api.MaxImports-1].Name, p.Defs[api.MaxDefs-1] = "m15", last
	wantForm(t, "an import too many", "own", ast.Program{Imports: append(slices.Clone(p.Imports), p.Imports[0]), Defs: p.Defs}, l)
	wantForm(t, "a definition too many", "own", ast.Program{Imports: p.Imports, Defs: append(slices.Clone(p.Defs), p.Defs[0])}, l)
	// No limit is named for faces.
	for i := range 20000 {
		l = append(l, sig.Face{Module: fmt.Sprint("o", i)})
	}
	if f := scope.Check("own", p, l); f != (lex.Fault{}) {
		t.Error(f)
	}
	wantForm(t, "two of one module, far apart", "own", p, append(l, l[0]))
	wantForm(t, "a last face that isn't right", "own", p, append(l, sig.Face{Module: "let"}))
}

func TestWrongFaces(t *testing.T) { // P11.1
	fine := faces(t)
	x := sig.Slot{Name: "x", Base: 1}
	programs := []ast.Program{{}, programOf(t, "import m;fun f():int=m.g(1);"), programOf(t, "import own;fun f():int=x;fun f():int=1;")}
	for i, wrong := range []sig.Face{
		{}, {Module: "let"}, {Module: "9"}, {Module: "w.w"}, {Module: strings.Repeat("w", api.MaxName+1)},
		{Module: "w", Sigs: []sig.Sig{{}}},
		{Module: "w", Sigs: []sig.Sig{{Name: "f", Base: 3}}},
		{Module: "w", Sigs: []sig.Sig{{Name: "f", Base: 1}, {Name: "f", Base: 1}}},
		{Module: "w", Sigs: []sig.Sig{{Name: "g", Base: 1}, {Name: "f", Base: 1}}},
		{Module: "w", Sigs: []sig.Sig{{Name: "f", Params: []sig.Slot{x, x}, Base: 1}}},
		{Module: "w", Sigs: []sig.Sig{{Name: "f", Base: 1, Clause: clause(name("y"))}}},
		{Module: "w", Sigs: []sig.Sig{{Name: "f", Params: []sig.Slot{{Name: "x", Base: 1, Clause: clause(res)}}, Base: 1}}},
		{Module: "w", Sigs: make([]sig.Sig, api.MaxDefs+1)},
		{Module: "m"}, {Module: "n"}, {Module: "own"}, fine[0], fine[1],
	} {
		for j, p := range programs {
			for at := range len(fine) + 1 {
				wantForm(t, fmt.Sprint("face ", i, " at ", at, " of ", j), "own", p, slices.Insert(slices.Clone(fine), at, wrong))
			}
		}
	}
	// The order of faces changes nothing.
	for at := range fine {
		l := slices.Concat(fine[at:], fine[:at])
		if f := scope.Check("own", programs[1], l); f != (lex.Fault{}) {
			t.Error(at, f)
		}
		if f := scope.Check("own", programs[2], l); f != (lex.Fault{E: api.ErrModule, At: 7}) {
			t.Error(at, f)
		}
	}
}

func TestDeep(t *testing.T) { // P1, P11.1, P11.2
	defer debug.SetMaxStack(debug.SetMaxStack(1 << 20))
	const n = 100000
	for i, around := range []func(e ast.Expr) ast.Expr{
		func(e ast.Expr) ast.Expr { return op(ast.Not, e) },
		func(e ast.Expr) ast.Expr { return op(ast.Sub, e, num(1)) },
		func(e ast.Expr) ast.Expr { return op(ast.Imp, num(1), e) },
		func(e ast.Expr) ast.Expr { return op(ast.If, num(1), e, num(1)) },
		func(e ast.Expr) ast.Expr { return op(ast.Assert, e, name("x")) },
		func(e ast.Expr) ast.Expr { return call("", "f", num(1), e) },
		func(e ast.Expr) ast.Expr { return let("y", num(1), e) },
		func(e ast.Expr) ast.Expr { return let("z", e, name("z")) },
	} {
		for _, inside := range []string{"x", "z"} {
			body := name(inside)
			body.At = 77
			for range n {
				body = around(body)
			}
			d := def(body)
			d.Params = []ast.Param{{Name: "x", Base: 1}, {Name: "y", Base: 1}}
			want := lex.Fault{}
			if inside == "z" {
				want = lex.Fault{E: api.ErrName, At: 77}
			}
			if f := scope.Check("own", ast.Program{Defs: []ast.Def{d}}, nil); f != want {
				t.Error(i, inside, f)
			}
			if i > 2 {
				continue
			}
			d.Params[1].Clause, d.Body = clause(body), num(1)
			if f := scope.Check("own", ast.Program{Defs: []ast.Def{d}}, nil); f != want {
				t.Error(i, inside, f)
			}
			if s, ok := scope.Callee(ast.Program{Defs: []ast.Def{d}}, nil, call("", "f")); !ok || len(s.Params) != 2 || len(s.Params[1].Clause) != 1 {
				t.Error(i, ok)
			}
		}
	}
}

func TestManyLetsAndCalls(t *testing.T) { // P11.1
	// Lets one in another, each with a name of its own; behind them none of these is bound.
	const n = 20000
	body := num(1)
	for i := range n {
		s := fmt.Sprint("x", i)
		body = let(s, call("m", "g", num(1)), op(ast.Add, name(s), body))
	}
	outside := name("x7")
	outside.At = 9
	d := def(op(ast.Add, body, num(1)))
	p := ast.Program{Imports: []ast.Import{{Name: "m"}}, Defs: []ast.Def{d}}
	// Each call is of what has a long clause.
	long := num(1)
	for range n {
		long = op(ast.Add, long, num(1))
	}
	l := []sig.Face{{Module: "m", Sigs: []sig.Sig{{Name: "g", Params: []sig.Slot{{Name: "x", Base: 1, Clause: clause(long)}}, Base: 1}}}}
	if f := scope.Check("own", p, l); f != (lex.Fault{}) {
		t.Error(f)
	}
	p.Defs[0].Body.Kids[1] = outside
	if f := scope.Check("own", p, l); f != (lex.Fault{E: api.ErrName, At: 9}) {
		t.Error(f)
	}
}

// endless are expressions with themselves inside.
func endless() []ast.Expr {
	var out []ast.Expr
	for _, o := range []int{ast.Add, ast.Let, ast.Call, 99} {
		for at := range 2 {
			kids := []ast.Expr{num(1), num(1)}
			kids[at] = ast.Expr{Op: o, Kids: kids}
			if o == ast.Let || o == ast.Call {
				kids[at].Name = "f"
			}
			out = append(out, kids[at], op(ast.Not, op(ast.Not, kids[at])))
		}
	}
	return out
}

func TestEndless(t *testing.T) { // P1, P11.1, P11.2
	for i, e := range endless() {
		wantForm(t, fmt.Sprint("body ", i), "own", ast.Program{Defs: []ast.Def{def(e)}}, nil)
		d := def(num(1))
		d.Clause = clause(e)
		p := ast.Program{Defs: []ast.Def{d}}
		wantForm(t, fmt.Sprint("clause ", i), "own", p, nil)
		l := []sig.Face{{Module: "m", Sigs: []sig.Sig{{Name: "f", Base: 1, Clause: clause(e)}}}}
		wantForm(t, fmt.Sprint("face ", i), "own", ast.Program{}, l)
		for _, module := range []string{"", "m"} {
			if s, ok := scope.Callee(p, l, ast.Expr{Op: ast.Call, Module: module, Name: "f", Kids: clause(e)}); !ok || s.Name != "f" || s.Base != 1 {
				t.Error(i, module, ok)
			}
		}
		if s, ok := scope.Callee(ast.Program{Defs: []ast.Def{def(e)}}, nil, e); ok != (e.Op == ast.Call) || ok != (s.Name == "f") {
			t.Error(i, s, ok)
		}
	}
}

func TestNothingGiven(t *testing.T) { // P1, P11.1, P11.2
	if f := scope.Check("own", ast.Program{}, nil); f != (lex.Fault{}) {
		t.Error(f)
	}
	if f := scope.Check("own", ast.Program{Imports: []ast.Import{}, Defs: []ast.Def{}}, []sig.Face{}); f != (lex.Fault{}) {
		t.Error(f)
	}
	wantForm(t, "no module", "", ast.Program{}, nil)
	if s, ok := scope.Callee(ast.Program{}, nil, ast.Expr{}); ok || !reflect.DeepEqual(s, sig.Sig{}) {
		t.Error(s, ok)
	}
	if l := scope.Order(ast.Program{}); len(l) != 0 {
		t.Error(l)
	}
}
