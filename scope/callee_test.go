package scope_test

import (
	"fmt"
	"reflect"
	"slices"
	"strings"
	"testing"
	"unsafe"

	"touchstone/ast"
	"touchstone/lex"
	"touchstone/scope"
	"touchstone/sig"
)

// whole tells all that a signature has, Ats too.
func whole(s sig.Sig) string {
	var out strings.Builder
	fmt.Fprintf(&out, "%q(", s.Name)
	for _, x := range s.Params {
		fmt.Fprintf(&out, "%q:%d", x.Name, x.Base)
		writeClause(&out, x.Clause)
	}
	fmt.Fprintf(&out, "):%d", s.Base)
	writeClause(&out, s.Clause)
	return out.String()
}

func writeClause(out *strings.Builder, l []ast.Expr) {
	for _, e := range l {
		fmt.Fprintf(out, "<%d %q.%q %v %t @%d", e.Op, e.Module, e.Name, e.Num, e.Yes, e.At)
		writeClause(out, e.Kids)
		out.WriteString(">")
	}
}

func TestCallee(t *testing.T) { // P11.2
	p := programOf(t, "import m;fun f(x:int{x>0},y:bool):int{res>x}=1;fun g():bool=f;fun f(z:bool):bool=z;pub fun h():int=1;")
	l := faces(t)
	own := func(at int) string { return whole(sig.Of(p.Defs[at])) }
	other := func(module, s string) string {
		found, ok := sig.Find(l, module, s)
		if !ok {
			t.Fatal(module, s)
		}
		return whole(found)
	}
	for _, want := range []struct {
		e    ast.Expr
		want string
	}{
		{call("", "f", num(1), num(2)), own(0)},
		{call("", "f"), own(0)},
		{call("", "f", slices.Repeat(clause(num(1)), 99)...), own(0)},
		{call("", "g"), own(1)},
		{call("", "h", call("", "f")), own(3)},
		{call("m", "g"), other("m", "g")},
		{call("m", "h", num(1)), other("m", "h")},
		// Whether it is imported plays no part.
		{call("n", "g", num(1)), other("n", "g")},
		{call("own", "f"), other("own", "f")},
		{call("", "none"), ""}, {call("", "F"), ""}, {call("", "x"), ""}, {call("", "m"), ""}, {call("", ""), ""},
		{call("m", "f"), ""}, {call("m", "hidden"), ""}, {call("m", ""), ""}, {call("m", "G"), ""}, {call("m", "none"), ""},
		{call("empty", "g"), ""}, {call("q", "g"), ""}, {call("M", "g"), ""}, {call("let", "f"), ""}, {call("g", "m"), ""},
		{name("f"), ""}, {num(1), ""}, {res, ""}, {let("f", num(1), name("f")), ""}, {op(ast.Not, call("", "f")), ""}, {ast.Expr{}, ""},
		{ast.Expr{Op: ast.Call + 1, Name: "f"}, ""}, {ast.Expr{Op: -1, Name: "f"}, ""}, {ast.Expr{Op: ast.Assert, Module: "m", Name: "g"}, ""},
	} {
		s, ok := scope.Callee(p, l, want.e)
		if ok != (want.want != "") || ok && whole(s) != want.want || !ok && !reflect.DeepEqual(s, sig.Sig{}) {
			t.Errorf("%s: got %s and %t, want %s", want.e.Dump(), whole(s), ok, want.want)
		}
	}
}

func TestCalleeOfStrangeThings(t *testing.T) { // P1, P11.2
	// Nothing of this is right; Callee doesn't ask for that.
	far := op(77, op(ast.Add), ast.Expr{Op: -1, Name: "no name", At: -9})
	p := ast.Program{Imports: []ast.Import{{}, {}}, Defs: []ast.Def{
		{Name: "9", Base: 7},
		{Name: "", Base: -1, Clause: []ast.Expr{far, far}, Params: make([]ast.Param, 100)},
		{Name: "9", Base: 1},
	}}
	l := []sig.Face{
		{Module: "", Sigs: []sig.Sig{{Name: "9", Base: 2}}},
		{Module: "m", Sigs: []sig.Sig{{Name: "b"}, {Name: "a", Base: 3}, {Name: "a", Base: 4}}},
		{Module: "m", Sigs: []sig.Sig{{Name: "a", Base: 5}, {Name: "c", Base: 6}}},
	}
	for _, want := range []struct {
		e ast.Expr
		s sig.Sig
	}{
		{call("", "9", far), sig.Of(p.Defs[0])},
		{call("", ""), sig.Of(p.Defs[1])},
		{call("m", "a"), l[1].Sigs[1]},
		{call("m", "b"), l[1].Sigs[0]},
	} {
		if s, ok := scope.Callee(p, l, want.e); !ok || whole(s) != whole(want.s) {
			t.Errorf("%s: got %s and %t", want.e.Dump(), whole(s), ok)
		}
	}
	// Only the first face of a module is asked.
	if s, ok := scope.Callee(p, l, call("m", "c")); ok || !reflect.DeepEqual(s, sig.Sig{}) {
		t.Error(s, ok)
	}
}

func TestOrder(t *testing.T) { // P11.2
	for s, want := range map[string]string{
		"":                            "",
		"fun f():int=m.g();":          "",
		"import m;":                   "m",
		"import z;import a;import z;": "a z",
		"import b;import B;import ba;import b_;import b;import b9;":            "B b b9 b_ ba",
		"import c;import b;import a;import c;import b;import a;fun d():int=1;": "a b c",
	} {
		p := programOf(t, s)
		if got := scope.Order(p); strings.Join(got, " ") != want {
			t.Errorf("%s: got %q", s, got)
		}
	}
	// Names and numbers of them may be any.
	p := ast.Program{Imports: []ast.Import{{Name: "é"}, {Name: "let"}, {Name: ""}, {Name: "\xff"}, {Name: "let", At: 7}, {Name: ""}, {Name: " "}}}
	if got := scope.Order(p); !slices.Equal(got, []string{"", " ", "let", "é", "\xff"}) {
		t.Errorf("%q", got)
	}
	var want []string
	p.Imports = nil
	for i := range 5000 {
		want = append(want, fmt.Sprintf("m%04d", i))
		p.Imports = append(p.Imports, ast.Import{Name: fmt.Sprintf("m%04d", i*7%5000)}, ast.Import{Name: fmt.Sprintf("m%04d", i*3%5000)})
	}
	if got := scope.Order(p); !slices.Equal(got, want) {
		t.Error(len(got))
	}
}

// lists are where all lists of expressions of a signature begin.
func lists(s sig.Sig) []*ast.Expr {
	var out []*ast.Expr
	var visit func(l []ast.Expr)
	visit = func(l []ast.Expr) {
		room := l[:cap(l)]
		for i := range room {
			out = append(out, &room[i])
		}
		for _, e := range l {
			visit(e.Kids)
		}
	}
	visit(s.Clause)
	for _, x := range s.Params {
		visit(x.Clause)
	}
	return out
}

func TestMemory(t *testing.T) { // P11.1, P11.2
	shared := op(ast.Gt, append(make([]ast.Expr, 0, 9), op(ast.Neg, name("x")), num(3))...)
	one := append(make([]ast.Expr, 0, 5), op(ast.And, shared, shared))
	d := def(call("m", "f", num(1)))
	d.Pub, d.Clause, d.Params = true, one, append(make([]ast.Param, 0, 5), ast.Param{Name: "x", Base: 1, Clause: one})
	defs := append(make([]ast.Def, 0, 5), d)
	imports := append(make([]ast.Import, 0, 5), ast.Import{Name: "n"}, ast.Import{Name: "m"})
	p := ast.Program{Imports: imports, Defs: defs}
	given := sig.Sig{Name: "f", Params: append(make([]sig.Slot, 0, 5), sig.Slot{Name: "x", Base: 1, Clause: one}), Base: 1, Clause: one}
	sigs := append(make([]sig.Sig, 0, 5), given)
	l := append(make([]sig.Face, 0, 5), sig.Face{Module: "n"}, sig.Face{Module: "m", Sigs: sigs})
	before := whole(given)
	if f := scope.Check("own", p, l); f != (lex.Fault{}) {
		t.Fatal(f)
	}
	all := map[*ast.Expr]bool{}
	for _, at := range lists(given) {
		all[at] = true
	}
	for i, e := range []ast.Expr{call("", "f"), call("", "f"), call("m", "f"), call("m", "f")} {
		s, ok := scope.Callee(p, l, e)
		if !ok || len(s.Params) != 1 {
			t.Fatal(i, ok)
		}
		for _, at := range lists(s) {
			if all[at] {
				t.Fatal(i, "shares a list, or has one twice")
			}
			all[at] = true
		}
		s.Params[:cap(s.Params)][0] = sig.Slot{}
	}
	order, again := scope.Order(p), scope.Order(p)
	order[0] = "changed"
	if !slices.Equal(again, []string{"m", "n"}) {
		t.Error(again)
	}
	if whole(given) != before || whole(sigs[0]) != before || whole(sig.Of(defs[0])) != before || imports[0].Name != "n" || imports[1].Name != "m" {
		t.Error("what was handed in was changed")
	}
	if defs[:5][1].Name != "" || imports[:5][2].Name != "" || l[:5][2].Module != "" || sigs[:5][1].Name != "" || one[:5][1].Op != 0 || shared.Kids[:9][2].Op != 0 || d.Params[:5][1].Name != "" {
		t.Error("spare room was written to")
	}
}

// within tells whether a text is a piece of another one's memory.
func within(piece, whole string) bool {
	from, at := uintptr(unsafe.Pointer(unsafe.StringData(whole))), uintptr(unsafe.Pointer(unsafe.StringData(piece)))
	return piece != "" && at >= from && at < from+uintptr(len(whole))
}

func TestTextsAreTheirOwn(t *testing.T) { // P11.2
	word := func(s string) string { return strings.Repeat(s, 20) }
	m, f, x := word("m"), word("f"), word("x")
	p := ast.Program{Imports: []ast.Import{{Name: m}, {Name: x}}, Defs: []ast.Def{{Name: f, Params: []ast.Param{{Name: x, Base: 1, Clause: clause(name(x))}}, Base: 1, Body: num(1)}}}
	l := []sig.Face{{Module: m, Sigs: []sig.Sig{sig.Of(p.Defs[0])}}}
	face := l[0].Sigs[0]
	given := []string{m, f, x, face.Name, face.Params[0].Name, face.Params[0].Clause[0].Name}
	told := append(scope.Order(p), scope.Order(p)...)
	for _, e := range []ast.Expr{call("", f), call(m, f), call("", f), call(m, f)} {
		s, ok := scope.Callee(p, l, e)
		if !ok {
			t.Fatal(e.Dump())
		}
		told = append(told, s.Name, s.Params[0].Name, s.Params[0].Clause[0].Name)
	}
	for i, a := range told {
		for _, b := range slices.Concat(given, told[:i]) {
			if within(a, b) || within(b, a) {
				t.Error("shares the memory of a text:", a)
			}
		}
	}
}
