package sig_test

import (
	"fmt"
	"reflect"
	"slices"
	"strings"
	"testing"
	"unsafe"

	"touchstone/api"
	"touchstone/ast"
	"touchstone/parse"
	"touchstone/sig"
	"touchstone/zed"
)

// programOf is the program of a text.
func programOf(t *testing.T, s string) ast.Program {
	t.Helper()
	x, f := parse.Parse(s, api.MaxDepth)
	if f.E != api.OK {
		t.Fatalf("%.200q: %v", s, f)
	}
	out, e := ast.Of(x)
	if e != api.OK {
		t.Fatalf("%.200q: error %d", s, e)
	}
	return out
}

// These make expressions.

func name(s string) ast.Expr { return ast.Expr{Op: ast.Var, Name: s} }

func num(n int) ast.Expr { return ast.Expr{Op: ast.Lit, Num: zed.From(n)} }

func op(op int, kids ...ast.Expr) ast.Expr { return ast.Expr{Op: op, Kids: kids} }

func clause(e ast.Expr) []ast.Expr { return []ast.Expr{e} }

var res = ast.Expr{Op: ast.Res}

// whole tells all that signatures have, Ats too.
func whole(l ...sig.Sig) string {
	var out strings.Builder
	typed := func(base int, clause []ast.Expr) {
		fmt.Fprintf(&out, ":%d{", base)
		for _, e := range clause {
			writeWhole(&out, e)
		}
		out.WriteString("}")
	}
	for _, s := range l {
		fmt.Fprintf(&out, "%q(", s.Name)
		for _, x := range s.Params {
			fmt.Fprintf(&out, "%q", x.Name)
			typed(x.Base, x.Clause)
		}
		out.WriteString(")")
		typed(s.Base, s.Clause)
		out.WriteString("\n")
	}
	return out.String()
}

func writeWhole(out *strings.Builder, e ast.Expr) {
	fmt.Fprintf(out, "<%d %q.%q %v %t @%d", e.Op, e.Module, e.Name, e.Num, e.Yes, e.At)
	for _, kid := range e.Kids {
		writeWhole(out, kid)
	}
	out.WriteString(">")
}

// dump is as whole, but for Ats.
func dump(s sig.Sig) string {
	d := ast.Def{Name: s.Name, Base: s.Base, Clause: s.Clause}
	for _, x := range s.Params {
		d.Params = append(d.Params, ast.Param{Name: x.Name, Base: x.Base, Clause: x.Clause})
	}
	return ast.Program{Defs: []ast.Def{d}}.Dump()
}

// strange are definitions of which no right signature is, and what is known of them all the same.
func strange() []ast.Def {
	x := name("x")
	far := op(77, op(ast.Add, x), ast.Expr{Op: -1, Name: "no name", Module: "é", Num: zed.From(-3), Yes: true, At: -9, Kids: clause(x)})
	return []ast.Def{
		{},
		{Name: "9", Base: 7, Clause: []ast.Expr{x, res, far}},
		{Pub: true, Name: "f", Params: []ast.Param{{}, {Name: "x", Base: -1, Clause: []ast.Expr{far, far}, At: 4, Bare: 9}, {Name: "x", Base: 2}}, Base: 1, Body: far},
		{Name: "f", Params: make([]ast.Param, 1000)},
	}
}

func TestOfDefinitions(t *testing.T) { // P10.1
	at := func(at int, e ast.Expr) ast.Expr {
		e.At = at
		return e
	}
	for s, want := range map[string]sig.Sig{
		"fun f():int=1;":          {Name: "f", Base: 1},
		"pub fun g ( ) : bool=f;": {Name: "g", Base: 2},
		"fun h(x:bool,y:int):int{true}=x;": {Name: "h", Params: []sig.Slot{{Name: "x", Base: 2}, {Name: "y", Base: 1}}, Base: 1,
			Clause: clause(ast.Expr{Op: ast.Truth, Yes: true, At: 24})},
		"fun f(x:int{(x)>0},y:int):bool{res=>y<x}=y;": {Name: "f",
			Params: []sig.Slot{{Name: "x", Base: 1, Clause: clause(at(15, op(ast.Gt, at(13, name("x")), at(16, num(0)))))}, {Name: "y", Base: 1}},
			Base:   2, Clause: clause(at(34, op(ast.Imp, at(31, res), at(37, op(ast.Lt, at(36, name("y")), at(38, name("x")))))))},
		"fun f(x:int,x:bool{y}):int{z}=1;": {Name: "f",
			Params: []sig.Slot{{Name: "x", Base: 1}, {Name: "x", Base: 2, Clause: clause(at(19, name("y")))}},
			Base:   1, Clause: clause(at(27, name("z")))},
	} {
		if got := sig.Of(programOf(t, s).Defs[0]); whole(got) != whole(want) {
			t.Errorf("%s: got %s, want %s", s, whole(got), whole(want))
		}
	}
}

func TestOfStrangeDefinitions(t *testing.T) { // P1, P10.1
	for i, d := range strange() {
		want := sig.Sig{Name: d.Name, Base: d.Base, Clause: d.Clause}
		for _, x := range d.Params {
			want.Params = append(want.Params, sig.Slot{Name: x.Name, Base: x.Base, Clause: x.Clause})
		}
		got := sig.Of(d)
		if whole(got) != whole(want) {
			t.Errorf("%d: got %s, want %s", i, whole(got), whole(want))
		}
		if text, e := got.Show(); got.Right() || e != api.ErrForm || text != "" {
			t.Error(i, "is taken to be right:", text, e)
		}
	}
}

func TestBare(t *testing.T) { // P10.1
	for s, want := range map[string]int{
		"fun f():int=1;":                                     1,
		"fun f():int{true}=1;":                               0,
		"fun f(x:int):int=1;":                                2,
		"fun f(x:int):int{res>x}=1;":                         1,
		"fun f(x:int{true}):int=1;":                          1,
		"fun f(x:int{true}):int{true}=1;":                    0,
		"fun f(x:int,y:bool{y},z:int):int=1;":                3,
		"fun f(x:int{x>0},y:bool{y},z:int):int{res>0}=1;":    1,
		"fun f(x:int,y:bool,z:int,u:int,v:int,w:int):int=1;": 7,
	} {
		if got := sig.Of(programOf(t, s).Defs[0]).Bare(); got != want {
			t.Errorf("%s: got %d, want %d", s, got, want)
		}
	}
	for i, want := range []int{1, 0, 3, 1001} {
		if got := sig.Of(strange()[i]).Bare(); got != want {
			t.Errorf("%d: got %d, want %d", i, got, want)
		}
	}
	if n := (sig.Sig{Params: []sig.Slot{{Clause: []ast.Expr{}}}, Clause: []ast.Expr{}}).Bare(); n != 2 {
		t.Error("nil and empty clauses are one:", n)
	}
}

// names are those of signatures, in order.
func names(l []sig.Sig) string {
	var out []string
	for _, s := range l {
		out = append(out, s.Name)
	}
	return strings.Join(out, " ")
}

func TestFaceOf(t *testing.T) { // P10.2
	for s, want := range map[string]string{
		"":                                  "",
		"import m;fun f():int=1;":           "",
		"pub fun f():int=1;":                "f",
		"fun f():int=1;pub fun g():bool=2;": "g",
		"pub fun c():int=1;fun d():int=1;pub fun a():int=1;pub fun b():int=1;":                                         "a b c",
		"pub fun b():int=1;pub fun B():int=1;pub fun ba():int=1;pub fun b_():int=1;":                                   "B b b_ ba",
		"fun f():int=1;fun f():int{x}=1;pub fun f(x:int{x>0}):int{res>x}=1;fun g():int{z}=1;fun g(x:int,x:int):int=1;": "f",
	} {
		for _, module := range []string{"m", "M_9", strings.Repeat("m", api.MaxName)} {
			p := programOf(t, s)
			f, e := sig.FaceOf(module, p)
			if e != api.OK || f.Module != module || names(f.Sigs) != want || !f.Right() {
				t.Errorf("%s: got %v and error %d, want %s", s, f, e, want)
			}
			for _, x := range f.Sigs {
				at := slices.IndexFunc(p.Defs, func(d ast.Def) bool { return d.Pub && d.Name == x.Name })
				if whole(x) != whole(sig.Of(p.Defs[at])) {
					t.Errorf("%s: got %s", s, whole(x))
				}
			}
		}
	}
}

func TestNoFaceOf(t *testing.T) { // P10.2
	holds := func(what, module string, p ast.Program) {
		t.Helper()
		if f, e := sig.FaceOf(module, p); e != api.ErrForm || !reflect.DeepEqual(f, sig.Face{}) {
			t.Errorf("%s: got %v and error %d", what, f, e)
		}
	}
	for _, s := range []string{
		"pub fun f():int=1;pub fun f():int=1;",
		"pub fun f():int=1;pub fun g():int=1;pub fun f(x:bool):bool=1;",
		"pub fun f(x:int,x:int):int=1;",
		"pub fun f(x:int{y>x},y:int):int=1;",
		"pub fun f(x:int{f>x}):int=1;",
		"pub fun f(x:int{res>x}):int=1;",
		"pub fun f(x:int):int{res>y}=1;",
		"pub fun a():int=1;pub fun f():int{f}=1;pub fun z():int=1;",
	} {
		holds(s, "m", programOf(t, s))
	}
	right := programOf(t, "pub fun f(x:int):int=1;")
	for _, module := range noNames() {
		holds("module "+module, module, right)
		holds("module "+module+" of nothing", module, ast.Program{})
	}
	for i, d := range strange() {
		d.Pub = true
		holds(fmt.Sprint("strange ", i), "m", ast.Program{Defs: []ast.Def{right.Defs[0], d}})
		d.Pub = false
		if f, e := sig.FaceOf("m", ast.Program{Defs: []ast.Def{d, right.Defs[0]}}); e != api.OK || names(f.Sigs) != "f" {
			t.Error("what isn't public plays no part:", i, f, e)
		}
	}
}

// many are so many definitions, falling by their names.
func many(n int, pub bool) []ast.Def {
	var out []ast.Def
	for i := range n {
		out = append(out, ast.Def{Pub: pub, Name: fmt.Sprintf("f%05d", n-i), Base: 1})
	}
	return out
}

func TestFaceOfMany(t *testing.T) { // P10.2
	for _, private := range []int{0, 1, 100} {
		for n := range api.MaxDefs + 3 {
			f, e := sig.FaceOf("m", ast.Program{Defs: append(many(private, false), many(n, true)...)})
			if n > api.MaxDefs {
				if e != api.ErrForm || f.Module != "" || len(f.Sigs) != 0 {
					t.Error(n, f, e)
				}
			} else if e != api.OK || len(f.Sigs) != n || !slices.IsSortedFunc(f.Sigs, func(a, b sig.Sig) int { return strings.Compare(a.Name, b.Name) }) {
				t.Error(n, f, e)
			}
		}
	}
	if f, e := sig.FaceOf("m", ast.Program{Defs: many(100000, true)}); e != api.ErrForm || len(f.Sigs) != 0 {
		t.Error(e)
	}
}

func TestFind(t *testing.T) { // P10.4
	of := func(name string, base int) sig.Sig { return sig.Sig{Name: name, Base: base} }
	// Not all of these are right; Find doesn't ask for that.
	l := []sig.Face{
		{Module: "a"},
		{Module: "m", Sigs: []sig.Sig{of("g", 1), of("f", 2), of("f", 1), of("", 7)}},
		{Module: "n", Sigs: []sig.Sig{of("f", 3), of("h", 4)}},
		{Module: "m", Sigs: []sig.Sig{of("f", 5), of("h", 6)}},
		{Module: "", Sigs: []sig.Sig{of("f", 8)}},
		{Module: "a", Sigs: []sig.Sig{of("f", 9)}},
	}
	for _, want := range []struct {
		module, name string
		base         int
	}{
		{"m", "g", 1}, {"m", "f", 2}, {"m", "", 7}, {"m", "h", 0}, {"m", "G", 0},
		{"n", "f", 3}, {"n", "h", 4}, {"n", "g", 0}, {"n", "", 0},
		{"", "f", 8}, {"", "g", 0}, {"a", "f", 0}, {"a", "", 0}, {"A", "f", 0}, {"o", "f", 0}, {"f", "m", 0},
	} {
		s, ok := sig.Find(l, want.module, want.name)
		if want.base == 0 && (ok || !reflect.DeepEqual(s, sig.Sig{})) || want.base != 0 && (!ok || !reflect.DeepEqual(s, of(want.name, want.base))) {
			t.Errorf("%s.%s: got %v %t, want %d", want.module, want.name, s, ok, want.base)
		}
	}
	for _, none := range [][]sig.Face{nil, {}, {{}}} {
		if s, ok := sig.Find(none, "", ""); ok || !reflect.DeepEqual(s, sig.Sig{}) {
			t.Error(none, s, ok)
		}
	}
	f, _ := sig.FaceOf("m", programOf(t, "pub fun f(x:int{x>0},y:bool):int{res>x=>y}=1;pub fun g():bool=1;"))
	for _, want := range f.Sigs {
		if s, ok := sig.Find([]sig.Face{{Module: "n"}, f}, "m", want.Name); !ok || whole(s) != whole(want) {
			t.Error(s, ok)
		}
	}
}

// lists are where all lists of expressions of a signature begin, and how much room they have.
func lists(s sig.Sig) map[*ast.Expr]int {
	out := map[*ast.Expr]int{}
	var visit func(l []ast.Expr)
	visit = func(l []ast.Expr) {
		if cap(l) == 0 {
			return
		}
		room := l[:cap(l)]
		for i := range room {
			out[&room[i]]++
		}
		for _, e := range l {
			visit(e.Kids)
		}
	}
	visit(s.Clause)
	for _, x := range s.Params {
		visit(x.Clause)
	}
	return out
}

// wantApart holds that signatures share no list with one another, and have none twice.
func wantApart(t *testing.T, what string, l ...sig.Sig) {
	t.Helper()
	all := map[*ast.Expr]int{}
	slots := map[*sig.Slot]int{}
	for _, s := range l {
		for at, n := range lists(s) {
			all[at] += n
		}
		room := s.Params[:cap(s.Params)]
		for i := range room {
			slots[&room[i]]++
		}
	}
	for _, n := range all {
		if n > 1 {
			t.Fatal(what, "has a list of expressions twice")
		}
	}
	for _, n := range slots {
		if n > 1 {
			t.Fatal(what, "has a list of parameters twice")
		}
	}
}

func TestMemory(t *testing.T) { // P10.1 to P10.4
	three := num(3)
	three.Kids = make([]ast.Expr, 0, 3)
	shared := op(ast.Gt, append(make([]ast.Expr, 0, 9), op(ast.Neg, name("x")), three)...)
	one := append(make([]ast.Expr, 0, 5), op(ast.And, shared, op(ast.Or, shared, shared)))
	d := ast.Def{Pub: true, Name: "f", Params: append(make([]ast.Param, 0, 5), ast.Param{Name: "x", Base: 1, Clause: one}, ast.Param{Name: "y", Base: 2, Clause: one}), Base: 1, Clause: one}
	e := d
	e.Name = "e"
	defs := append(make([]ast.Def, 0, 9), d, e)
	given := sig.Sig{Clause: d.Clause, Params: []sig.Slot{{Name: "x"}, {Name: "y"}}}
	before := whole(sig.Of(d))
	f, err := sig.FaceOf("m", ast.Program{Defs: defs})
	if err != api.OK {
		t.Fatal(err)
	}
	faces := append(make([]sig.Face, 0, 3), sig.Face{}, f)
	found, ok := sig.Find(faces, "m", "f")
	again, _ := sig.Find(faces, "m", "f")
	text, err := found.Show()
	if !ok || err != api.OK {
		t.Fatal(ok, err)
	}
	read, err := sig.Read(text)
	other, _ := sig.Read(text)
	if err != api.OK || dump(read) != dump(found) {
		t.Fatal(err, read)
	}
	long, err := sig.Read(padded(api.MaxText + 100))
	if err != api.OK {
		t.Fatal(err)
	}
	told := []sig.Sig{sig.Of(d), sig.Of(d), f.Sigs[0], f.Sigs[1], found, again, read, other, long}
	wantApart(t, "what is told", told...)
	for i := range told {
		for at := range lists(told[i]) {
			if lists(given)[at] > 0 {
				t.Error(i, "shares a list that was handed in")
			}
			*at = ast.Expr{}
		}
		told[i].Params[:cap(told[i].Params)][0] = sig.Slot{}
	}
	if whole(sig.Of(d)) != before || !reflect.DeepEqual(defs, []ast.Def{d, e}) || defs[:9][2].Name != "" || d.Params[:5][2].Name != "" || one[:5][1].Op != 0 || shared.Kids[:9][2].Op != 0 {
		t.Error("what was handed in was changed")
	}
}

// within tells whether a text is a piece of another one's memory.
func within(piece, whole string) bool {
	from, at := uintptr(unsafe.Pointer(unsafe.StringData(whole))), uintptr(unsafe.Pointer(unsafe.StringData(piece)))
	return piece != "" && at >= from && at < from+uintptr(len(whole))
}

func TestTextsAreTheirOwn(t *testing.T) { // P10.1 to P10.4
	word := func(s string) string { return strings.Repeat(s, 20) }
	m, f, x, y := word("m"), word("f"), word("x"), word("y")
	call := ast.Expr{Op: ast.Call, Module: m, Name: f}
	d := ast.Def{Pub: true, Name: f, Params: []ast.Param{{Name: x, Base: 1}, {Name: y, Base: 1, Clause: clause(op(ast.Lt, name(x), name(y)))}}, Base: 1}
	texts := func(s sig.Sig) []string {
		out := []string{s.Name}
		for _, p := range s.Params {
			out = append(out, p.Name)
			for _, e := range p.Clause {
				for _, kid := range e.Kids {
					out = append(out, kid.Name)
				}
			}
		}
		for _, e := range s.Clause {
			out = append(out, e.Name, e.Module)
		}
		return out
	}
	face, _ := sig.FaceOf(m, ast.Program{Defs: []ast.Def{d}})
	found, _ := sig.Find([]sig.Face{face}, m, f)
	text, _ := found.Show()
	read, _ := sig.Read(text)
	shown, _ := read.Show()
	holds := func(what string, told, given []string) {
		t.Helper()
		for _, a := range told {
			for _, b := range given {
				if within(a, b) || within(b, a) {
					t.Error(what, "shares the memory of a text that was handed in:", a)
				}
			}
		}
	}
	d.Clause = clause(call)
	given := []string{m, f, x, y}
	holds("Of", texts(sig.Of(d)), given)
	holds("FaceOf", append(texts(face.Sigs[0]), face.Module), given)
	holds("Find", texts(found), texts(face.Sigs[0]))
	holds("Show", []string{text}, texts(found))
	holds("Read", texts(read), []string{text})
	holds("Show", []string{shown}, append(texts(read), text))
}
