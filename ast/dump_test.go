package ast_test

import (
	"math"
	"math/rand/v2"
	"reflect"
	"runtime/debug"
	"slices"
	"strconv"
	"strings"
	"testing"
	"unsafe"

	"touchstone/api"
	"touchstone/ast"
	"touchstone/zed"
)

// dump, size and free are plainer ways to what P8.2 says, sentence by sentence.

func dump(e ast.Expr) string {
	parts := []string{strconv.Itoa(e.Op)}
	if e.Module != "" {
		parts = append(parts, e.Module+"."+e.Name)
	} else if e.Name != "" {
		parts = append(parts, e.Name)
	}
	if e.Op == 1 {
		parts = append(parts, e.Num.String())
	}
	if e.Op == 2 {
		parts = append(parts, strconv.FormatBool(e.Yes))
	}
	for _, kid := range e.Kids {
		parts = append(parts, dump(kid))
	}
	return "[" + strings.Join(parts, " ") + "]"
}

func size(e ast.Expr) int {
	n := 1
	for _, kid := range e.Kids {
		n += size(kid)
	}
	return n
}

// free are the names by which they are free, with the Lets around.
func free(e ast.Expr, around []string) map[string]bool {
	out := map[string]bool{}
	if e.Op == 3 && !slices.Contains(around, e.Name) {
		out[e.Name] = true
	}
	for i, kid := range e.Kids {
		inside := around
		if e.Op == 22 && i == 1 {
			inside = append(slices.Clone(around), e.Name)
		}
		for name := range free(kid, inside) {
			out[name] = true
		}
	}
	return out
}

// dumpProgram is a plainer way to what P8.3 says.
func dumpProgram(p ast.Program) string {
	typed := func(base int, clause []ast.Expr) string {
		out := ":" + strconv.Itoa(base)
		if len(clause) > 0 {
			out += dump(clause[0])
		}
		return out
	}
	var lines []string
	for _, i := range p.Imports {
		lines = append(lines, "import "+i.Name)
	}
	for _, d := range p.Defs {
		words := []string{d.Name}
		if d.Pub {
			words = []string{"pub", d.Name}
		}
		for _, x := range d.Params {
			words = append(words, x.Name+typed(x.Base, x.Clause))
		}
		words = append(words, typed(d.Base, d.Clause), "=", dump(d.Body))
		lines = append(lines, strings.Join(words, " "))
	}
	return strings.Join(append(lines, ""), "\n")
}

func TestExample(t *testing.T) { // P8.1, P8.2
	if e := formulaOf(t, "(x)+1"); e.Dump() != "[7 [3 x] [1 1]]" || e.At != 3 {
		t.Error(e.Dump(), e.At)
	}
}

func TestDumps(t *testing.T) { // P8.2
	for s, want := range map[string]string{
		"0":                     "[1 0]",
		"true":                  "[2 true]",
		"false":                 "[2 false]",
		"x":                     "[3 x]",
		"-x":                    "[5 [3 x]]",
		"not x":                 "[6 [3 x]]",
		"x=>y":                  "[20 [3 x] [3 y]]",
		"if x then 1 else 2":    "[21 [3 x] [1 1] [1 2]]",
		"let x=1 in x":          "[22 x [1 1] [3 x]]",
		"assert x in -1":        "[23 [3 x] [5 [1 1]]]",
		"f()":                   "[24 f]",
		"f(1,x)":                "[24 f [1 1] [3 x]]",
		"m.f()":                 "[24 m.f]",
		"m.f(m.f(x))":           "[24 m.f [24 m.f [3 x]]]",
		"x-1-2":                 "[8 [8 [3 x] [1 1]] [1 2]]",
		"x-(1-2)":               "[8 [3 x] [8 [1 1] [1 2]]]",
		strings.Repeat("9", 60): "[1 " + strings.Repeat("9", 60) + "]",
	} {
		if got := bodyOf(t, s).Dump(); got != want {
			t.Errorf("%q: got %s, want %s", s, got, want)
		}
	}
	if got := formulaOf(t, "-res").Dump(); got != "[5 [4]]" {
		t.Error(got)
	}
}

func TestDumpsOfAnything(t *testing.T) { // P1, P8.2
	huge, _ := zed.Pow(zed.From(-10), 101)
	for want, e := range map[string]ast.Expr{
		"[0]":                            {},
		"[-9223372036854775808]":         {Op: math.MinInt},
		"[99 a.]":                        {Op: 99, Module: "a"},
		"[1 a.b 0 [2 false]]":            {Op: 1, Module: "a", Name: "b", Yes: true, Kids: []ast.Expr{{Op: 2}}},
		"[2 b true]":                     {Op: 2, Name: "b", Num: zed.From(3), Yes: true, At: -7},
		"[3]":                            {Op: 3, Num: zed.From(3), Yes: true},
		"[1 -7]":                         {Op: 1, Num: zed.From(-7)},
		"[1 " + huge.String() + "]":      {Op: 1, Num: huge},
		"[4 [0] [0]]":                    {Op: 4, Kids: make([]ast.Expr, 2, 9)},
		"[24 \n.[ \x00] [3  ] [22 [0]]]": {Op: 24, Module: "\n", Name: "[ \x00]", Kids: []ast.Expr{{Op: 3, Name: " "}, {Op: 22, Kids: []ast.Expr{{}}}}},
	} {
		if got := e.Dump(); got != want || dump(e) != want {
			t.Errorf("got %q, want %q", got, want)
		}
	}
}

func TestSizes(t *testing.T) { // P8.2
	for s, want := range map[string]int{
		"1": 1, "x": 1, "((x))": 1, "-x": 2, "x+1": 3, "f()": 1, "m.f(1,2,x+1)": 6, "let x=1 in x": 3, "if x then 1 else -2": 5, "assert x=1 in 2": 5, "x&&y||not z": 6,
	} {
		if got := bodyOf(t, s).Size(); got != want {
			t.Errorf("%q: got %d, want %d", s, got, want)
		}
	}
	if got := (ast.Expr{}).Size(); got != 1 {
		t.Error(got)
	}
}

func TestFree(t *testing.T) { // P8.2
	for s, want := range map[string]string{
		"1": "", "true": "", "x": "x", "x+x": "x", "y+x*y": "x y", "b-a-B-A": "A B a b", "f(x)": "x", "m.f(f(x),y)": "x y", "m.f()": "",
		"let x=1 in x":                         "",
		"let x=x in x":                         "x",
		"let x=y in x+z":                       "y z",
		"(let x=1 in x)+x":                     "x",
		"x+(let x=1 in x)":                     "x",
		"let x=let x=y in x in x":              "y",
		"let x=let y=x in y in y":              "x y",
		"let x=1 in let x=x in x":              "",
		"let x=1 in (let x=2 in x)+x":          "",
		"(let x=1 in (let x=2 in x)+x)-x":      "x",
		"let x=1 in let y=x in x+y+z":          "z",
		"let x=(let z=1 in z)in z":             "z",
		"let f=1 in f(g)":                      "g",
		"if x then let y=1 in y else y":        "x y",
		"assert(let p=q in p)in p":             "p q",
		"let x=1 in if x=y then f(x,z)else x":  "y z",
		"f(let x=1 in x,x)":                    "x",
		"f(x,let x=1 in x)":                    "x",
		"let x=1 in f(let x=y in x,x,m.x(x))":  "y",
		"let ab=a in let a=ab in a+ab+b+a_+a1": "a a1 a_ b",
	} {
		got := bodyOf(t, s).Free()
		if strings.Join(got, " ") != want {
			t.Errorf("%q: got %q, want %q", s, got, want)
		}
	}
	if got := formulaOf(t, "res+x").Free(); !slices.Equal(got, []string{"x"}) {
		t.Error(got)
	}
}

func TestFreeOfAnything(t *testing.T) { // P1, P8.2
	x, y := name(0, "x"), name(0, "y")
	named := func(op int, s string, kids ...ast.Expr) ast.Expr { return ast.Expr{Op: op, Name: s, Kids: kids} }
	for i, c := range []struct {
		e    ast.Expr
		want []string
	}{
		{ast.Expr{}, nil},
		{ast.Expr{Op: ast.Var}, []string{""}},
		{named(ast.Let, ""), nil},
		{named(ast.Let, "x", x), []string{"x"}},
		{op(0, ast.Add, named(ast.Let, "x", y), x), []string{"x", "y"}},
		{op(0, ast.Add, named(ast.Let, "x", y, x), x), []string{"x", "y"}},
		{named(ast.Let, "", y, ast.Expr{Op: ast.Var}), []string{"y"}},
		{named(ast.Var, "x", y, named(ast.Let, "x", x, x)), []string{"x", "y"}},
		{named(ast.Let, "x", y, named(ast.Var, "x", x)), []string{"y"}},
		{named(ast.Call, "x", named(99, "z")), nil},
		{ast.Expr{Op: ast.Var, Name: "x", Module: "m"}, []string{"x"}},
	} {
		if got := c.e.Free(); !slices.Equal(got, c.want) {
			t.Errorf("%d: got %q, want %q", i, got, c.want)
		}
	}
}

// anything draws an expression that may be wrong in any way.
func anything(r *rand.Rand, room int) ast.Expr {
	text := func() string { return []string{"", "", "x", "y", "z", "b a"}[r.IntN(6)] }
	e := ast.Expr{Op: []int{r.IntN(27) - 1, ast.Var, ast.Let, ast.Let}[r.IntN(4)], Name: text(), Module: text(), Num: zed.From(r.IntN(9) - 4), Yes: r.IntN(2) == 0, At: r.IntN(9)}
	if room > 0 {
		for range r.IntN(4) {
			e.Kids = append(e.Kids, anything(r, room-1))
		}
	}
	return e
}

func TestManyExpressions(t *testing.T) { // P1, P8.2
	r := rand.New(rand.NewPCG(5, 8))
	for range 20000 {
		e := anything(r, r.IntN(6))
		before := whole(e, 0)
		if got, want := e.Dump(), dump(e); got != want {
			t.Fatalf("got %s, want %s", got, want)
		}
		if got, want := e.Size(), size(e); got != want {
			t.Fatalf("%s: got %d, want %d", dump(e), got, want)
		}
		// A Let of other than two kids is none of the chapter's: its second kid is taken for what it is in.
		var names []string
		for name := range free(e, nil) {
			names = append(names, name)
		}
		slices.Sort(names)
		if got := e.Free(); !slices.Equal(got, names) {
			t.Fatalf("%s: got %q, want %q", dump(e), got, names)
		}
		if whole(e, 0) != before {
			t.Fatal("an expression was changed")
		}
	}
}

// nested is a Let in a Let, and so on, of names that are free in what it is alone.
func nested(op int, depth int) ast.Expr {
	e := name(0, "x0")
	for i := range depth {
		s := "x" + strconv.Itoa(i%3)
		e = ast.Expr{Op: op, Name: s, Kids: []ast.Expr{e}}
		if op == ast.Let {
			e.Kids = []ast.Expr{name(0, s), e.Kids[0]}
		}
	}
	return e
}

func TestDeepExpressions(t *testing.T) { // P1, P8.2, P8.3
	defer debug.SetMaxStack(debug.SetMaxStack(1 << 20))
	const depth = 300000
	for _, op := range []int{ast.Neg, ast.Let} {
		e := nested(op, depth)
		want := map[int]int{ast.Neg: depth + 1, ast.Let: 2*depth + 1}[op]
		if got := e.Size(); got != want {
			t.Error(op, got)
		}
		if got := e.Dump(); strings.Count(got, "[") != want || !strings.HasSuffix(got, strings.Repeat("]", depth+1)) {
			t.Error(op, len(got))
		}
		if got := strings.Join(e.Free(), " "); got != map[int]string{ast.Neg: "x0", ast.Let: "x0 x1 x2"}[op] {
			t.Error(op, got)
		}
		p := ast.Program{Defs: []ast.Def{{Params: []ast.Param{{Clause: []ast.Expr{e}}}, Clause: []ast.Expr{e}, Body: e}}}
		if !ast.Same(p, p) || ast.Same(p, ast.Program{Defs: []ast.Def{{Body: e}}}) || p.Erase().Dump() != " :0 :0 = "+e.Dump()+"\n" {
			t.Error(op)
		}
	}
}

func TestBroadExpressions(t *testing.T) { // P1, P8.2
	e := ast.Expr{Op: ast.Call, Kids: make([]ast.Expr, 300000)}
	for i := range e.Kids {
		e.Kids[i] = name(0, "x"+strconv.Itoa(i))
	}
	if e.Size() != 300001 || len(e.Free()) != 300000 || strings.Count(e.Dump(), "] [3 x") != 299999 {
		t.Error(e.Size())
	}
}

func TestProgramDumps(t *testing.T) { // P8.3
	for s, want := range map[string]string{
		"":                                "",
		"import m;":                       "import m\n",
		"import m;import a;import m;":     "import m\nimport a\nimport m\n",
		"fun f():int=1;":                  "f :1 = [1 1]\n",
		"pub fun f():bool=true;":          "pub f :2 = [2 true]\n",
		"fun f(x:int):bool=x;":            "f x:1 :2 = [3 x]\n",
		"fun f(x:int{x>0},y:bool):int=1;": "f x:1[16 [3 x] [1 0]] y:2 :1 = [1 1]\n",
		"fun f(x:int,y:bool{y}):int=1;":   "f x:1 y:2[3 y] :1 = [1 1]\n",
		"fun f():bool{res}=true;":         "f :2[4] = [2 true]\n",
		"import m;pub fun g():int=1;pub fun f(x:int):int{res=x}=m.g(x);": "import m\npub g :1 = [1 1]\npub f x:1 :1[12 [4] [3 x]] = [24 m.g [3 x]]\n",
	} {
		if got := programOf(t, s).Dump(); got != want {
			t.Errorf("%q: got %q, want %q", s, got, want)
		}
	}
	odd := ast.Program{Imports: []ast.Import{{}, {Name: "a b"}}, Defs: []ast.Def{{}, {Pub: true, Base: -7, Params: []ast.Param{{Base: 12}}}}}
	if got := odd.Dump(); got != "import \nimport a b\n :0 = [0]\npub  :12 :-7 = [0]\n" {
		t.Errorf("%q", got)
	}
}

func TestManyProgramDumps(t *testing.T) { // P8.1, P8.3
	drawnPrograms(6, 2000, func(s string, want ast.Program) {
		got := programOf(t, s)
		if got.Dump() != dumpProgram(want) {
			t.Fatalf("%q: got %s, want %s", s, got.Dump(), dumpProgram(want))
		}
		if got.Erase().Dump() != dumpProgram(erased(want)) || wholeProgram(got.Erase()) != wholeProgram(erased(want)) {
			t.Fatalf("%q: got %s", s, wholeProgram(got.Erase()))
		}
		if !slices.Equal(got.Bare(), bares(want)) || !slices.Equal(got.Erase().Bare(), bares(want)) {
			t.Fatalf("%q: got %v", s, got.Bare())
		}
		for _, at := range got.Bare() {
			if !strings.HasSuffix(s[:at], "int") && !strings.HasSuffix(s[:at], "bool") {
				t.Fatalf("%q: %d", s, at)
			}
		}
		if wholeProgram(got) != wholeProgram(want) {
			t.Fatal("a program was changed")
		}
	})
}

// erased is a plainer way to a program without clauses.
func erased(p ast.Program) ast.Program {
	p.Defs = slices.Clone(p.Defs)
	for i := range p.Defs {
		d := &p.Defs[i]
		d.Clause, d.Params = nil, slices.Clone(d.Params)
		for k := range d.Params {
			d.Params[k].Clause = nil
		}
	}
	return p
}

// bares is a plainer way to the places where clauses may be put.
func bares(p ast.Program) []int {
	var all []int
	for _, d := range p.Defs {
		for _, x := range d.Params {
			all = append(all, x.Bare)
		}
		all = append(all, d.Bare)
	}
	return slices.DeleteFunc(all, func(bare int) bool { return bare == -1 })
}

func TestBare(t *testing.T) { // P8.3
	for s, want := range map[string][]int{
		"":                                  nil,
		"import m;":                         nil,
		"fun f():int=1;":                    {11},
		"fun f():int{res>0}=1;":             nil,
		"fun f(x:int,y:bool{y}):bool=true;": {11, 27},
		"fun f(x:int{x>0},y:bool):int{res>0}=1;fun g():bool --\n =true;": {23, 50},
	} {
		if got := programOf(t, s).Bare(); !slices.Equal(got, want) {
			t.Errorf("%q: got %v, want %v", s, got, want)
		}
		if got := programOf(t, s).Erase().Bare(); !slices.Equal(got, want) {
			t.Errorf("%q erased: got %v, want %v", s, got, want)
		}
	}
	odd := ast.Program{Defs: []ast.Def{{Bare: 7, Params: []ast.Param{{Bare: -1}, {Bare: -2}, {}}}, {Bare: -1}, {Bare: 7, Clause: make([]ast.Expr, 1)}, {Bare: math.MinInt}}}
	if got := odd.Bare(); !slices.Equal(got, []int{-2, 0, 7, 7, math.MinInt}) {
		t.Error(got)
	}
	if got := odd.Erase().Bare(); !slices.Equal(got, []int{-2, 0, 7, 7, math.MinInt}) {
		t.Error(got)
	}
}

func TestSame(t *testing.T) { // P8.3
	const s = "import m;pub fun f(x:int{x>0},y:bool):int{res>0}=m.f(x,1);"
	p := programOf(t, s)
	for _, same := range []string{s, " --\n" + s, "import m;pub fun f(x:int{(x)>0},y:bool):int{(res>(0))}=(m.f((x),(1)));"} {
		if q := programOf(t, same); !ast.Same(p, q) || !ast.Same(q, p) {
			t.Error(same)
		}
	}
	for _, other := range []string{
		"", "import m;", s[9:], "import n;" + s[9:], s[:9] + s, s + s[9:], s[:9] + s[13:],
		strings.Replace(s, "fun f", "fun g", 1), strings.Replace(s, "(x:", "(z:", 1), strings.Replace(s, "x:int", "x:bool", 1), strings.Replace(s, "y:bool", "y:int", 1), strings.Replace(s, "):int", "):bool", 1),
		strings.Replace(s, "{x>0}", "", 1), strings.Replace(s, "{x>0}", "{x>1}", 1), strings.Replace(s, "{x>0}", "{0<x}", 1), strings.Replace(s, "y:bool", "y:bool{true}", 1), strings.Replace(s, "{res>0}", "", 1), strings.Replace(s, "{res>0}", "{res>=0}", 1),
		strings.Replace(s, "m.f(", "f(", 1), strings.Replace(s, "m.f(", "n.f(", 1), strings.Replace(s, "(x,1)", "(x,2)", 1), strings.Replace(s, "(x,1)", "(x)", 1), strings.Replace(s, "(x,1)", "(1,x)", 1), strings.Replace(s, "(x,1)", "(-x,1)", 1), strings.Replace(s, "(x,1)", "(y,1)", 1),
	} {
		if q := programOf(t, other); ast.Same(p, q) || ast.Same(q, p) {
			t.Error(other)
		}
	}
	// It is their dumps alone that are held against each other.
	a := ast.Program{Imports: []ast.Import{{Name: "m\nimport n", At: 7}}, Defs: []ast.Def{{At: 9, Bare: -1}}}
	b := ast.Program{Imports: []ast.Import{{Name: "m"}, {Name: "n"}}, Defs: []ast.Def{{Params: []ast.Param{}}}}
	if !ast.Same(a, b) || !ast.Same(ast.Program{}, ast.Program{Imports: []ast.Import{}}) {
		t.Error("one dump, but not the same")
	}
}

func TestManySame(t *testing.T) { // P8.3
	var last ast.Program
	same := 0
	drawnPrograms(7, 5000, func(s string, p ast.Program) {
		if got, want := ast.Same(last, p), dumpProgram(last) == dumpProgram(p); got != want {
			t.Fatalf("%s and %s: %t", dumpProgram(last), dumpProgram(p), got)
		} else if got {
			same++
		}
		if q := p.Erase(); ast.Same(p, q) != (dumpProgram(p) == dumpProgram(q)) {
			t.Fatal(dumpProgram(p))
		}
		last = p
	})
	if same < 10 {
		t.Error(same)
	}
}

func TestErase(t *testing.T) { // P8.3
	// All but the clauses stays, whatever is in it.
	e := ast.Expr{Op: 77, Name: "n", Module: "m", Num: zed.From(-3), Yes: true, Kids: []ast.Expr{{At: 2}}, At: 8}
	clause := []ast.Expr{e, e}
	p := ast.Program{
		Imports: []ast.Import{{"i", 3}, {"", -1}},
		Defs:    []ast.Def{{Pub: true, Name: "d", Params: []ast.Param{{"p", 7, clause, 5, 4}, {"q", -1, nil, 6, -1}, {"r", 2, clause[:1], 1, -1}}, Base: 9, Clause: clause[:1], Body: e, At: 11, Bare: -1}, {Clause: clause, Bare: 12}},
	}
	want := ast.Program{
		Imports: []ast.Import{{"i", 3}, {"", -1}},
		Defs:    []ast.Def{{Pub: true, Name: "d", Params: []ast.Param{{"p", 7, nil, 5, 4}, {"q", -1, nil, 6, -1}, {"r", 2, nil, 1, -1}}, Base: 9, Body: e, At: 11, Bare: -1}, {Bare: 12}},
	}
	before := wholeProgram(p)
	if got := p.Erase(); wholeProgram(got) != wholeProgram(want) {
		t.Errorf("got %s, want %s", wholeProgram(got), wholeProgram(want))
	}
	if wholeProgram(p) != before {
		t.Error("the program was changed")
	}
	if got := (ast.Program{}).Erase(); wholeProgram(got) != wholeProgram(ast.Program{}) {
		t.Error(got)
	}
}

func TestRoomBehindListsStays(t *testing.T) { // P8.2, P8.3
	p := programOf(t, everything)
	imports, defs := append(make([]ast.Import, 0, 9), p.Imports...), append(make([]ast.Def, 0, 9), p.Defs...)
	kids := append(make([]ast.Expr, 0, 9), defs[0].Body.Kids...)
	defs[0].Body.Kids = kids
	q := ast.Program{Imports: imports, Defs: defs}
	q.Erase()
	q.Dump()
	q.Bare()
	defs[0].Body.Free()
	if !reflect.DeepEqual(imports[:9][2:], make([]ast.Import, 7)) || !reflect.DeepEqual(defs[:9][2:], make([]ast.Def, 7)) || !reflect.DeepEqual(kids[:9][2:], make([]ast.Expr, 7)) {
		t.Error("the room behind a list was changed")
	}
}

// within tells whether a text is a piece of another one's memory.
func within(piece, whole string) bool {
	from, at := uintptr(unsafe.Pointer(unsafe.StringData(whole))), uintptr(unsafe.Pointer(unsafe.StringData(piece)))
	return piece != "" && at >= from && at < from+uintptr(len(whole))
}

func TestTextsAreTheirOwn(t *testing.T) { // P8.1, P8.2, P8.3
	names := strings.Repeat("n", api.MaxName) + "m"
	n, m := names[:api.MaxName], names[api.MaxName:]
	e := ast.Expr{Op: ast.Var, Name: n, Module: m, Kids: []ast.Expr{{Op: ast.Var, Name: m}}}
	p := ast.Program{Imports: []ast.Import{{Name: m}}, Defs: []ast.Def{{Name: n, Params: []ast.Param{{Name: n}}, Body: e}}}
	q := p.Erase()
	d := q.Defs[0]
	told := append(e.Free(), q.Imports[0].Name, d.Name, d.Params[0].Name, d.Body.Name, d.Body.Module, d.Body.Kids[0].Name)
	if !slices.Equal(told, []string{m, n, m, n, n, n, m, m}) {
		t.Fatal(told)
	}
	for i, s := range told {
		if within(s, names) {
			t.Error(i, "shares the memory of a text that was handed in")
		}
	}
	a, b := e.Free(), e.Free()
	a[0], a = "?", append(a[:1], "?")
	if !slices.Equal(b, []string{m, n}) || !slices.Equal(e.Free(), b) || len(a) != 2 {
		t.Error(b)
	}
	x, y := q.Bare(), q.Bare()
	x[0] = 99
	if y[0] == 99 || q.Bare()[0] == 99 {
		t.Error(y)
	}
}
