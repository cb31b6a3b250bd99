package ast_test

import (
	"slices"
	"strings"
	"testing"

	"touchstone/api"
	"touchstone/ast"
	"touchstone/lex"
	"touchstone/parse"
	"touchstone/tree"
)

// everything is a program with all that the grammar has.
const everything = "import m; import n; pub fun f(x: int {x > 0 && not x = 7}, y: bool {y => x < 9 || (x >= res)}): int {-res <> x * 2 / 3 % 4} = let z = m.g(x, 1 + y) in if y then z - 1 else assert z <= 0 in f(z, not (y)); fun h(): bool = true; --"

// someFormula is a formula with much of what a formula has.
const someFormula = "not (x + -2 * y <= res) && p || true => x % 3 = (7)"

// reading is Of or FormulaOf, and what it tells in one text.
type reading struct {
	parse func(string, int) (tree.Tree, lex.Fault)
	text  string
	of    func(tree.Tree) (string, api.Errno)
}

func readings() []reading {
	return []reading{
		{parse.Parse, everything, func(x tree.Tree) (string, api.Errno) {
			p, e := ast.Of(x)
			return wholeProgram(p), e
		}},
		{parse.Formula, someFormula, func(x tree.Tree) (string, api.Errno) {
			out, e := ast.FormulaOf(x)
			return whole(out, 0), e
		}},
	}
}

// wantForm holds that a tree is no program's and no formula's, and that nothing is told of it.
func wantForm(t *testing.T, why string, x tree.Tree) {
	t.Helper()
	if p, e := ast.Of(x); e != api.ErrForm || wholeProgram(p) != wholeProgram(ast.Program{}) {
		t.Errorf("%s: Of: %d, %s", why, e, wholeProgram(p))
	}
	if out, e := ast.FormulaOf(x); e != api.ErrForm || whole(out, 0) != whole(ast.Expr{}, 0) {
		t.Errorf("%s: FormulaOf: %d, %s", why, e, whole(out, 0))
	}
}

// copied is a tree that has nothing in common with another one.
func copied(x tree.Tree) tree.Tree {
	out := tree.Tree{Tokens: slices.Clone(x.Tokens), Nodes: slices.Clone(x.Nodes)}
	for i := range out.Nodes {
		out.Nodes[i].Kids = slices.Clone(out.Nodes[i].Kids)
	}
	return out
}

func TestEachTokenChanged(t *testing.T) { // P8.1
	for _, r := range readings() {
		x, _ := r.parse(r.text, api.MaxDepth)
		for i, token := range x.Tokens {
			changed := func(why string, token lex.Token) {
				t.Helper()
				y := copied(x)
				y.Tokens[i] = token
				wantForm(t, why, y)
			}
			for kind := -1; kind <= 6; kind++ {
				if kind != token.Kind {
					changed("kind", lex.Token{Kind: kind, Lead: token.Lead, Text: token.Text, At: token.At})
				}
			}
			for _, at := range []int{token.At - 1, token.At + 1, -1, 1 << 62} {
				changed("place", lex.Token{Kind: token.Kind, Lead: token.Lead, Text: token.Text, At: at})
			}
			for _, lead := range []string{token.Lead + " ", token.Lead + " --\n", token.Lead + "("} {
				changed("lead", lex.Token{Kind: token.Kind, Lead: lead, Text: token.Text, At: token.At})
			}
			for _, text := range []string{token.Text + " ", token.Text + "x", "!", token.Text + "\xff"} {
				changed("text", lex.Token{Kind: token.Kind, Lead: token.Lead, Text: text, At: token.At})
			}
		}
	}
}

func TestEachNodeChanged(t *testing.T) { // P8.1
	for _, r := range readings() {
		x, _ := r.parse(r.text, api.MaxDepth)
		for i, node := range x.Nodes {
			changed := func(why string, node tree.Node) {
				t.Helper()
				y := copied(x)
				y.Nodes[i] = node
				wantForm(t, why, y)
			}
			for kind := -1; kind <= 20; kind++ {
				if kind != node.Kind {
					changed("kind", tree.Node{Kind: kind, Token: node.Token, Kids: node.Kids})
				}
			}
			for _, token := range []int{node.Token - 1, node.Token + 1, -2, 1 << 62} {
				changed("token", tree.Node{Kind: node.Kind, Token: token, Kids: node.Kids})
			}
			for _, kid := range []int{-1, 0, i - 1, i, i + 1, 1 << 62} {
				changed("a kid more", tree.Node{Kind: node.Kind, Token: node.Token, Kids: append(slices.Clone(node.Kids), kid)})
			}
			for k := range node.Kids {
				changed("a kid less", tree.Node{Kind: node.Kind, Token: node.Token, Kids: slices.Delete(slices.Clone(node.Kids), k, k+1)})
				other := slices.Clone(node.Kids)
				other[k]--
				changed("another kid", tree.Node{Kind: node.Kind, Token: node.Token, Kids: other})
			}
		}
	}
}

func TestTokensAndNodesMoreAndLess(t *testing.T) { // P8.1
	wantForm(t, "nothing", tree.Tree{})
	for _, r := range readings() {
		x, _ := r.parse(r.text, api.MaxDepth)
		for i := range x.Tokens {
			wantForm(t, "tokens", tree.Tree{Tokens: x.Tokens[:i], Nodes: x.Nodes})
			wantForm(t, "tokens", tree.Tree{Tokens: x.Tokens[i+1:], Nodes: x.Nodes})
			wantForm(t, "a token twice", tree.Tree{Tokens: slices.Insert(slices.Clone(x.Tokens), i, x.Tokens[i]), Nodes: x.Nodes})
		}
		for i := range x.Nodes {
			wantForm(t, "nodes", tree.Tree{Tokens: x.Tokens, Nodes: x.Nodes[:i]})
			wantForm(t, "nodes", tree.Tree{Tokens: x.Tokens, Nodes: x.Nodes[i+1:]})
			wantForm(t, "a node twice", tree.Tree{Tokens: x.Tokens, Nodes: slices.Insert(slices.Clone(x.Nodes), i, x.Nodes[i])})
		}
		wantForm(t, "a root more", tree.Tree{Tokens: x.Tokens, Nodes: append(slices.Clone(x.Nodes), tree.Node{Kind: tree.Alone, Token: -1, Kids: []int{len(x.Nodes) - 1}})})
	}
}

func TestNodesInAnotherOrder(t *testing.T) { // P8.1
	// It is the same tree but for the places that its nodes are called by, so that it isn't just the one that is made.
	l, _ := lex.Lex("x")
	b := tree.NewBuilder(l)
	x, end := b.Leaf(), b.Leaf()
	b.Node(tree.Alone, b.Node(tree.Name, x), end)
	made, _ := parse.Formula("x", 1)
	want, _ := made.Dump(made.Root())
	if got, e := b.Done().Dump(b.Done().Root()); got != want || e != api.OK {
		t.Fatal(got, e)
	}
	wantForm(t, "another order", b.Done())
}

// builtBy is the tree of a text's tokens that a builder makes.
func builtBy(t *testing.T, s string, build func(b *tree.Builder)) tree.Tree {
	t.Helper()
	l, f := lex.Lex(s)
	if f.E != api.OK {
		t.Fatalf("%q: %v", s, f)
	}
	b := tree.NewBuilder(l)
	build(b)
	if !b.Done().Right() {
		t.Fatalf("%q: not right", s)
	}
	return b.Done()
}

func TestRightTreesOfNoText(t *testing.T) { // P8.1
	name := func(b *tree.Builder) int { return b.Node(tree.Name, b.Leaf()) }
	for s, build := range map[string]func(b *tree.Builder){
		"":    func(b *tree.Builder) { b.Node(tree.Alone, b.Leaf()) },
		"()":  func(b *tree.Builder) { b.Node(tree.Alone, b.Node(tree.Group, b.Leaf(), b.Leaf()), b.Leaf()) },
		"x y": func(b *tree.Builder) { b.Node(tree.Alone, name(b), name(b), b.Leaf()) },
		"(x)": func(b *tree.Builder) { b.Node(tree.Alone, b.Leaf(), name(b), b.Leaf(), b.Leaf()) },
		"-1":  func(b *tree.Builder) { b.Node(tree.Alone, b.Node(tree.Numeral, b.Leaf(), b.Leaf()), b.Leaf()) },
		"x":   func(b *tree.Builder) { b.Node(tree.Name, b.Leaf(), b.Leaf()) },
		"y":   func(b *tree.Builder) { b.Node(tree.Alone, b.Node(tree.Numeral, b.Leaf()), b.Leaf()) },
		"z":   func(b *tree.Builder) { b.Node(tree.Program, name(b), b.Leaf()) },
		"f()": func(b *tree.Builder) { b.Node(tree.Alone, b.Node(tree.Call, b.Leaf(), b.Leaf(), b.Leaf()), b.Leaf()) },
		"a-b-c": func(b *tree.Builder) {
			b.Node(tree.Alone, b.Node(tree.Binary, name(b), b.Leaf(), b.Node(tree.Binary, name(b), b.Leaf(), name(b))), b.Leaf())
		},
		"a+b*c": func(b *tree.Builder) {
			b.Node(tree.Alone, b.Node(tree.Binary, b.Node(tree.Binary, name(b), b.Leaf(), name(b)), b.Leaf(), name(b)), b.Leaf())
		},
		"a<b<c": func(b *tree.Builder) {
			b.Node(tree.Alone, b.Node(tree.Binary, b.Node(tree.Binary, name(b), b.Leaf(), name(b)), b.Leaf(), name(b)), b.Leaf())
		},
		"x .":    func(b *tree.Builder) { b.Node(tree.Alone, name(b), b.Node(tree.Group, b.Leaf()), b.Leaf()) },
		"import": func(b *tree.Builder) { b.Node(tree.Program, b.Node(tree.Import, b.Leaf()), b.Leaf()) },
		"m;":     func(b *tree.Builder) { b.Node(tree.Program, b.Node(tree.Import, b.Leaf(), b.Leaf()), b.Leaf()) },
		"fun":    func(b *tree.Builder) { b.Node(tree.Program, b.Node(tree.Def, b.Leaf()), b.Leaf()) },
		"fun f":  func(b *tree.Builder) { b.Node(tree.Program, b.Node(tree.Def), b.Leaf(), b.Leaf(), b.Leaf()) },
		"let x":  func(b *tree.Builder) { b.Node(tree.Alone, b.Node(tree.Let, b.Leaf(), b.Leaf()), b.Leaf()) },
		"import m;": func(b *tree.Builder) {
			b.Node(tree.Program, b.Node(tree.Def, b.Leaf(), b.Leaf(), b.Leaf()), b.Leaf())
		},
	} {
		wantForm(t, s, builtBy(t, s, build))
	}
}

// groups is the tree of a name in so many parentheses.
func groups(t *testing.T, n int) tree.Tree {
	t.Helper()
	return builtBy(t, strings.Repeat("(", n)+"x"+strings.Repeat(")", n), func(b *tree.Builder) {
		var opens []int
		for range n {
			opens = append(opens, b.Leaf())
		}
		inside := b.Node(tree.Name, b.Leaf())
		for _, open := range slices.Backward(opens) {
			inside = b.Node(tree.Group, open, inside, b.Leaf())
		}
		b.Node(tree.Alone, inside, b.Leaf())
	})
}

func TestTooDeep(t *testing.T) { // P8.1
	for _, n := range []int{0, 1, 198, 199} {
		if e, err := ast.FormulaOf(groups(t, n)); err != api.OK || whole(e, 0) != whole(name(n, "x"), 0) {
			t.Error(n, err, e)
		}
	}
	for _, n := range []int{200, 201, 5000} {
		wantForm(t, "too deep", groups(t, n))
	}
}

func TestTooLong(t *testing.T) { // P8.1
	for _, r := range readings() {
		x, f := r.parse(r.text+" --"+strings.Repeat(" ", api.MaxText-len(r.text)-3), api.MaxDepth)
		if f.E != api.OK {
			t.Fatal(f)
		}
		if _, e := r.of(x); e != api.OK {
			t.Error(e)
		}
		end := &x.Tokens[len(x.Tokens)-1]
		end.Lead, end.At = end.Lead+" ", end.At+1
		wantForm(t, "too long", x)
		end.Lead = strings.Repeat(" ", 1<<24)
		wantForm(t, "too long", x)
	}
}

func TestOneForTheOther(t *testing.T) { // P8.1
	for _, s := range []string{"x", "res", someFormula, "true"} {
		x, f := parse.Formula(s, api.MaxDepth)
		if p, e := ast.Of(x); f.E != api.OK || e != api.ErrForm || len(p.Imports)+len(p.Defs) > 0 {
			t.Error(s, f, e)
		}
	}
	for _, s := range []string{"", "import m;", head + "1;", everything} {
		x, f := parse.Parse(s, api.MaxDepth)
		if out, e := ast.FormulaOf(x); f.E != api.OK || e != api.ErrForm || whole(out, 0) != whole(ast.Expr{}, 0) {
			t.Error(s, f, e)
		}
	}
}

func TestWhatSaysTheSameIsTaken(t *testing.T) { // P8.1
	for _, r := range readings() {
		x, _ := r.parse(r.text, api.MaxDepth)
		want, e := r.of(x)
		if e != api.OK {
			t.Fatal(e)
		}
		// Nil and empty lists are one, and room behind a list says nothing.
		y := copied(x)
		for i := range y.Nodes {
			y.Nodes[i].Kids = append(make([]int, 0, 9), y.Nodes[i].Kids...)
		}
		if got, e := r.of(y); got != want || e != api.OK {
			t.Error(got, e)
		}
		// A token that another text has just so is one of that text's tree.
		y = copied(x)
		for i := range y.Tokens {
			y.Tokens[i].Lead = strings.ReplaceAll(y.Tokens[i].Lead, " ", "\t")
		}
		if got, e := r.of(y); got != want || e != api.OK {
			t.Error(got, e)
		}
		for i := range y.Tokens {
			if y.Tokens[i].Text == "x" {
				y.Tokens[i].Text = "q"
			}
		}
		if got, e := r.of(y); got != strings.ReplaceAll(want, `"x"`, `"q"`) || e != api.OK {
			t.Error(got, e)
		}
	}
}
