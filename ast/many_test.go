package ast_test

import (
	"math/rand/v2"
	"reflect"
	"slices"
	"strings"
	"testing"

	"touchstone/api"
	"touchstone/ast"
	"touchstone/lex"
	"touchstone/parse"
	"touchstone/tree"
	"touchstone/zed"
)

// writer draws programs by chance: it writes a text, and tells what that text must mean, with all places.
type writer struct {
	r      *rand.Rand
	out    strings.Builder
	inBody bool
}

// put writes a token with something ahead, and tells its place.
func (w *writer) put(token string) int {
	w.out.WriteString([]string{" ", " ", " ", "\n", "\t\r", " --(let\n", " --\n"}[w.r.IntN(7)])
	w.out.WriteString(token)
	return w.out.Len() - len(token)
}

func (w *writer) name() string {
	return []string{"x", "y", "z", "Int", "f_9", "pubs", "m"}[w.r.IntN(7)]
}

// binaries are the signs of two kids by their Ops, from 7 on, and how tightly the sign, and what stands on both sides of it, must bind at least.
var binaries = []struct {
	sign              string
	own, first, other int
}{
	{"+", 6, 6, 7}, {"-", 6, 6, 7}, {"*", 7, 7, 8}, {"/", 7, 7, 8}, {"%", 7, 7, 8},
	{"=", 5, 6, 6}, {"<>", 5, 6, 6}, {"<", 5, 6, 6}, {"<=", 5, 6, 6}, {">", 5, 6, 6}, {">=", 5, 6, 6},
	{"&&", 3, 3, 4}, {"||", 2, 2, 3}, {"=>", 1, 2, 1},
}

// binding is how tightly an expression of an Op binds.
func binding(op int) int {
	switch {
	case op >= 7 && op <= 20:
		return binaries[op-7].own
	case op >= 21 && op <= 23:
		return 0
	case op == 5:
		return 8
	case op == 6:
		return 4
	}
	return 9
}

// drawOp is an Op that may stand here.
func (w *writer) drawOp(room int) int {
	for {
		op := 1 + w.r.IntN(24)
		if (room > 0 || op <= 4) && (w.inBody && op != 4 || !w.inBody && op <= 20) {
			return op
		}
	}
}

// expr draws an expression that must bind at least so tightly.
func (w *writer) expr(least, room int) ast.Expr {
	op := w.drawOp(room)
	if binding(op) >= least && w.r.IntN(8) > 0 {
		return w.exprOf(op, room)
	}
	w.put("(")
	e := w.exprOf(op, room)
	w.put(")")
	return e
}

// exprOf draws an expression of an Op that may stand here.
func (w *writer) exprOf(op, room int) ast.Expr {
	e := ast.Expr{Op: op}
	kid := func(least int) { e.Kids = append(e.Kids, w.expr(least, room-1)) }
	part := func() { kid(0) }
	switch {
	case op == 1:
		digits := []string{"0", "7", "10", "900000000000000000000000000001"}[w.r.IntN(4)]
		e.At = w.put(digits)
		e.Num, _ = zed.Parse(digits)
	case op == 2:
		e.Yes = w.r.IntN(2) == 0
		e.At = w.put(map[bool]string{true: "true", false: "false"}[e.Yes])
	case op == 3:
		e.Name = w.name()
		e.At = w.put(e.Name)
	case op == 4:
		e.At = w.put("res")
	case op == 5:
		e.At = w.put("-")
		kid(8)
	case op == 6:
		e.At = w.put("not")
		kid(4)
	case op <= 20:
		b := binaries[op-7]
		kid(b.first)
		e.At = w.put(b.sign)
		kid(b.other)
	case op == 21:
		e.At = w.put("if")
		part()
		w.put("then")
		part()
		w.put("else")
		part()
	case op == 22:
		e.At, e.Name = w.put("let"), w.name()
		w.put(e.Name)
		w.put("=")
		part()
		w.put("in")
		part()
	case op == 23:
		e.At = w.put("assert")
		part()
		w.put("in")
		part()
	case op == 24:
		e.Kids = w.call(&e, room)
	}
	return e
}

// call draws a call's tokens and arguments.
func (w *writer) call(e *ast.Expr, room int) []ast.Expr {
	if w.r.IntN(2) == 0 {
		e.Module = w.name()
		e.At = w.put(e.Module)
		w.put(".")
	}
	e.Name = w.name()
	at := w.put(e.Name)
	if e.Module == "" {
		e.At = at
	}
	var kids []ast.Expr
	w.put("(")
	for i := range w.r.IntN(4) {
		if i > 0 {
			w.put(",")
		}
		kids = append(kids, w.expr(0, room-1))
	}
	w.put(")")
	return kids
}

// typed draws a base, and a clause or none: what a parameter or a definition has of them.
func (w *writer) typed() (base int, clause []ast.Expr, bare int) {
	w.put(":")
	base = 1 + w.r.IntN(2)
	key := []string{"int", "bool"}[base-1]
	bare = w.put(key) + len(key)
	if w.r.IntN(2) == 0 {
		return base, nil, bare
	}
	w.put("{")
	w.inBody = false
	clause = []ast.Expr{w.expr(1, w.r.IntN(4))}
	w.put("}")
	return base, clause, -1
}

func (w *writer) def() ast.Def {
	var d ast.Def
	if d.Pub = w.r.IntN(2) == 0; d.Pub {
		w.put("pub")
	}
	w.put("fun")
	d.Name = w.name()
	d.At = w.put(d.Name)
	w.put("(")
	for i := range w.r.IntN(4) {
		if i > 0 {
			w.put(",")
		}
		p := ast.Param{Name: w.name()}
		p.At = w.put(p.Name)
		p.Base, p.Clause, p.Bare = w.typed()
		d.Params = append(d.Params, p)
	}
	w.put(")")
	d.Base, d.Clause, d.Bare = w.typed()
	w.put("=")
	w.inBody = true
	d.Body = w.expr(0, w.r.IntN(6))
	w.put(";")
	return d
}

func (w *writer) program() ast.Program {
	var p ast.Program
	for range w.r.IntN(3) {
		w.put("import")
		i := ast.Import{Name: w.name()}
		i.At = w.put(i.Name)
		w.put(";")
		p.Imports = append(p.Imports, i)
	}
	for range w.r.IntN(4) {
		p.Defs = append(p.Defs, w.def())
	}
	return p
}

// drawnPrograms are texts with what they mean.
func drawnPrograms(seed uint64, n int, hold func(s string, want ast.Program)) {
	r := rand.New(rand.NewPCG(seed, 8))
	for range n {
		w := &writer{r: r}
		want := w.program()
		if s := w.out.String(); len(s) <= api.MaxText {
			hold(s, want)
		}
	}
}

func TestManyPrograms(t *testing.T) { // P8.1
	ops, n := map[int]int{}, 0
	drawnPrograms(1, 3000, func(s string, want ast.Program) {
		n++
		got := programOf(t, s)
		if wholeProgram(got) != wholeProgram(want) {
			t.Fatalf("%q: got %s, want %s", s, wholeProgram(got), wholeProgram(want))
		}
		for _, d := range got.Defs {
			ops[d.Body.Op]++
			for _, kid := range d.Body.Kids {
				ops[kid.Op]++
			}
		}
	})
	if n < 2900 || len(ops) != 23 {
		t.Error(n, ops)
	}
}

func TestManyFormulas(t *testing.T) { // P8.1
	r := rand.New(rand.NewPCG(2, 8))
	for range 5000 {
		w := &writer{r: r}
		want := w.expr(1, r.IntN(7))
		if got := formulaOf(t, w.out.String()); whole(got, 0) != whole(want, 0) {
			t.Fatalf("%q: got %s, want %s", w.out.String(), whole(got, 0), whole(want, 0))
		}
	}
}

// taken tells whether a tree is just the one that is made of its text.
func taken(x tree.Tree, read func(string, int) (tree.Tree, lex.Fault)) bool {
	made, f := read(x.Show(), api.MaxDepth)
	plain := func(x tree.Tree) tree.Tree {
		x = copied(x)
		for i := range x.Nodes {
			x.Nodes[i].Kids = append([]int{}, x.Nodes[i].Kids...)
		}
		x.Tokens = append([]lex.Token{}, x.Tokens...)
		return x
	}
	return f.E == api.OK && reflect.DeepEqual(plain(x), plain(made))
}

// spoil changes one thing or another of a tree.
func spoil(r *rand.Rand, x tree.Tree) {
	i, n := r.IntN(len(x.Tokens)), r.IntN(len(x.Nodes))
	token, node := &x.Tokens[i], &x.Nodes[n]
	small := r.IntN(len(x.Nodes)+4) - 2
	switch r.IntN(9) {
	case 0:
		token.Kind = r.IntN(8) - 1
	case 1:
		token.Lead = []string{"", " ", "--", "\n", "(", "x"}[r.IntN(6)]
	case 2:
		token.Text = []string{"", "x", "-", "7", "let", "res", "true", "false", "+", "*", "int", "bool", "\x00"}[r.IntN(13)]
	case 3:
		token.At = small
	case 4:
		node.Kind = r.IntN(24) - 2
	case 5:
		node.Token = small
	case 6:
		node.Kids = append(node.Kids, small)
	case 7:
		if len(node.Kids) > 0 {
			node.Kids[r.IntN(len(node.Kids))] = small
		}
	case 8:
		j, m := r.IntN(len(x.Tokens)), r.IntN(len(x.Nodes))
		x.Tokens[i], x.Tokens[j] = x.Tokens[j], x.Tokens[i]
		x.Nodes[n], x.Nodes[m] = x.Nodes[m], x.Nodes[n]
	}
}

func TestManySpoiltTrees(t *testing.T) { // P1, P8.1
	r, told := rand.New(rand.NewPCG(3, 8)), map[api.Errno]int{}
	wants := func(which reading, x tree.Tree) {
		t.Helper()
		got, e := which.of(x)
		told[e]++
		if want := taken(x, which.parse); want != (e == api.OK) || !want && e != api.ErrForm {
			t.Fatalf("%v: error %d, taken: %t", x, e, want)
		}
		if e != api.OK && got != wholeProgram(ast.Program{}) && got != whole(ast.Expr{}, 0) {
			t.Fatal(got)
		}
	}
	for range 3000 {
		which, w := readings()[r.IntN(2)], &writer{r: r}
		if which.text == everything {
			w.program()
		} else {
			w.expr(1, r.IntN(5))
		}
		x, f := which.parse(w.out.String(), api.MaxDepth)
		if f.E != api.OK {
			t.Fatal(f)
		}
		for range 4 {
			wants(which, x)
			spoil(r, x)
		}
	}
	if told[api.OK] < 3100 || told[api.ErrForm] < 5000 || len(told) != 2 {
		t.Error(told)
	}
}

func TestTreesOfAnything(t *testing.T) { // P1, P8.1
	r := rand.New(rand.NewPCG(4, 8))
	number := func() int { return []int{-1 << 63, -1, 0, 1, 2, 3, 10, 18, 19, 20, 1<<63 - 1}[r.IntN(11)] }
	for range 20000 {
		var x tree.Tree
		for range r.IntN(5) {
			x.Tokens = append(x.Tokens, lex.Token{Kind: r.IntN(7), Lead: []string{"", " "}[r.IntN(2)], Text: []string{"", "x", "1", "(", "\xff"}[r.IntN(5)], At: number()})
		}
		for range r.IntN(5) {
			node := tree.Node{Kind: number(), Token: number()}
			for range r.IntN(3) {
				node.Kids = append(node.Kids, number())
			}
			x.Nodes = append(x.Nodes, node)
		}
		wantForm(t, "anything", x)
	}
}

func TestTreesStayAsTheyAre(t *testing.T) { // P8.1
	for _, r := range readings() {
		x, _ := r.parse(r.text, api.MaxDepth)
		y := copied(x)
		want, _ := r.of(x)
		if !reflect.DeepEqual(x, y) {
			t.Error("a tree was changed")
		}
		if got, _ := r.of(y); got != want {
			t.Error("two answers of one tree")
		}
	}
}

// scribble writes over all lists of a program, spare room too, and tells how many there are.
func scribble(p ast.Program, with string) int {
	n := 1
	for i := range p.Imports[:cap(p.Imports)] {
		p.Imports[:cap(p.Imports)][i].Name = with
	}
	var exprs func(l []ast.Expr)
	exprs = func(l []ast.Expr) {
		n++
		for i := range l {
			exprs(l[i].Kids)
		}
		all := l[:cap(l)]
		for i := range all {
			all[i].Name, all[i].Kids = with, nil
		}
	}
	for _, d := range p.Defs {
		for _, x := range d.Params {
			exprs(x.Clause)
		}
		exprs(d.Clause)
		exprs(d.Body.Kids)
		for i := range d.Params[:cap(d.Params)] {
			d.Params[:cap(d.Params)][i] = ast.Param{Name: with}
		}
	}
	for i := range p.Defs[:cap(p.Defs)] {
		p.Defs[:cap(p.Defs)][i] = ast.Def{Name: with}
	}
	return n
}

func TestProgramsAreTheirOwn(t *testing.T) { // P8.1, P8.3
	x, _ := parse.Parse(everything, api.MaxDepth)
	a, _ := ast.Of(x)
	b, _ := ast.Of(x)
	want := wholeProgram(b)
	c := b.Erase()
	erased := wholeProgram(c)
	if scribble(a, "?") < 20 || wholeProgram(b) != want || wholeProgram(c) != erased {
		t.Error("what Of told of one tree twice has something in common")
	}
	clear(x.Tokens)
	for i := range x.Nodes {
		clear(x.Nodes[i].Kids)
	}
	clear(x.Nodes)
	scribble(c, "?")
	if wholeProgram(b) != want {
		t.Error("a program has something in common with its tree, or with what Erase told")
	}
	c = b.Erase()
	scribble(b, "?")
	if wholeProgram(c) != erased {
		t.Error("what Erase told has something in common with the program")
	}
}

// textsOf are all texts in some expressions.
func textsOf(l []ast.Expr) []string {
	var out []string
	for _, e := range l {
		out = append(append(out, e.Name, e.Module), textsOf(e.Kids)...)
	}
	return out
}

// textsOfProgram are all texts in a program.
func textsOfProgram(p ast.Program) []string {
	var out []string
	for _, i := range p.Imports {
		out = append(out, i.Name)
	}
	for _, d := range p.Defs {
		out = append(out, d.Name)
		for _, x := range d.Params {
			out = append(append(out, x.Name), textsOf(x.Clause)...)
		}
		out = append(append(out, textsOf(d.Clause)...), textsOf([]ast.Expr{d.Body})...)
	}
	return out
}

func TestTextsAreNotTheTrees(t *testing.T) { // P8.1, P8.3
	x, _ := parse.Parse(everything, api.MaxDepth)
	p, _ := ast.Of(x)
	q, _ := ast.Of(x)
	y, _ := parse.Formula(someFormula, api.MaxDepth)
	e, _ := ast.FormulaOf(y)
	var given []string
	for _, token := range append(x.Tokens, y.Tokens...) {
		given = append(given, token.Text)
	}
	told := slices.Concat(textsOfProgram(p), textsOfProgram(q), textsOfProgram(p.Erase()), textsOf([]ast.Expr{e}))
	for i, s := range told {
		if slices.ContainsFunc(given, func(token string) bool { return within(s, token) }) {
			t.Errorf("%q shares the memory of a token that was handed in", s)
		}
		if slices.ContainsFunc(told[:i], func(other string) bool { return within(s, other) || within(other, s) }) {
			t.Errorf("%q shares the memory of another text that was told", s)
		}
	}
}

// lists are all lists of expressions in some of them, each with its spare room.
func lists(l []ast.Expr) [][]ast.Expr {
	out := [][]ast.Expr{l[:cap(l)]}
	for _, e := range l {
		out = append(out, lists(e.Kids)...)
	}
	return out
}

func TestListsAreTheirOwn(t *testing.T) { // P8.1, P8.3
	p := programOf(t, everything)
	for _, p := range []ast.Program{p, p.Erase()} {
		var all [][]ast.Expr
		for _, d := range p.Defs {
			for _, x := range d.Params {
				all = append(all, lists(x.Clause)...)
			}
			all = append(all, lists(d.Clause)...)
			all = append(all, lists([]ast.Expr{d.Body})...)
		}
		for i, l := range all {
			for k := range l {
				l[k].At = 1000 + i
			}
		}
		for i, l := range all {
			if slices.ContainsFunc(l, func(e ast.Expr) bool { return e.At != 1000+i }) {
				t.Fatal("two lists of one answer have something in common")
			}
		}
	}
}
