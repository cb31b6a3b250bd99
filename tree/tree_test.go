package tree_test

import (
	"math"
	"math/rand/v2"
	"reflect"
	"runtime/debug"
	"slices"
	"strconv"
	"strings"
	"testing"
	"unsafe"

	"touchstone/api"
	"touchstone/lex"
	"touchstone/spot"
	"touchstone/tree"
)

// lexed are a text's tokens.
func lexed(t *testing.T, s string) []lex.Token {
	t.Helper()
	l, f := lex.Lex(s)
	if f.E != api.OK {
		t.Fatalf("Lex(%q): %v", s, f)
	}
	return l
}

// leaf and node are nodes as a tree has them.
func leaf(token int) tree.Node { return tree.Node{Kind: tree.Leaf, Token: token} }

func node(kind int, kids ...int) tree.Node { return tree.Node{Kind: kind, Token: -1, Kids: kids} }

// leavesBelow is a plainer way to the places of the tokens beneath a node.
func leavesBelow(x tree.Tree, n int) []int {
	if x.Nodes[n].Kind == tree.Leaf {
		return []int{x.Nodes[n].Token}
	}
	var out []int
	for _, kid := range x.Nodes[n].Kids {
		out = append(out, leavesBelow(x, kid)...)
	}
	return out
}

// isRight is a plainer way to whether a tree is right, sentence by sentence.
func isRight(x tree.Tree) bool {
	if len(x.Nodes) == 0 {
		return false
	}
	times := map[int]int{}
	for i, n := range x.Nodes {
		if n.Kind < 1 || n.Kind > 19 {
			return false
		}
		if n.Kind == 19 && (len(n.Kids) != 0 || n.Token < 0 || n.Token >= len(x.Tokens)) {
			return false
		}
		if n.Kind != 19 && n.Token != -1 {
			return false
		}
		for _, kid := range n.Kids {
			if kid < 0 || kid >= i {
				return false
			}
			times[kid]++
		}
	}
	for i := range len(x.Nodes) - 1 {
		if times[i] != 1 {
			return false
		}
	}
	var all []int
	for i := range x.Tokens {
		all = append(all, i)
	}
	return slices.Equal(leavesBelow(x, len(x.Nodes)-1), all)
}

// dumped is a plainer way to a dump.
func dumped(x tree.Tree, n int) string {
	if x.Nodes[n].Kind == tree.Leaf {
		if token := x.Tokens[x.Nodes[n].Token]; token.Kind != lex.End {
			return token.Text
		}
		return "$"
	}
	out := "(" + strconv.Itoa(x.Nodes[n].Kind)
	for _, kid := range x.Nodes[n].Kids {
		out += " " + dumped(x, kid)
	}
	return out + ")"
}

// texted is a plainer way to a text, and to whether there is a leaf.
func texted(x tree.Tree, n int) (string, bool) {
	l := leavesBelow(x, n)
	out := ""
	for i, place := range l {
		if i > 0 {
			out += x.Tokens[place].Lead
		}
		out += x.Tokens[place].Text
	}
	return out, len(l) > 0
}

// wantNode holds what is told of a node of a right tree.
func wantNode(t *testing.T, x tree.Tree, n int, dump, text string) {
	t.Helper()
	if got, e := x.Dump(n); got != dump || e != api.OK {
		t.Fatalf("%v: Dump(%d): got %q %d, want %q", x, n, got, e, dump)
	}
	if got, e := x.Text(n); got != text || e != api.OK {
		t.Fatalf("%v: Text(%d): got %q %d, want %q", x, n, got, e, text)
	}
}

// wantSpan holds a span, and that its text stands there.
func wantSpan(t *testing.T, x tree.Tree, n int, want spot.Span) {
	t.Helper()
	got, e := x.Span(n)
	if got != want || e != api.OK {
		t.Fatalf("%v: Span(%d): got %v %d, want %v", x, n, got, e, want)
	}
	text, _ := x.Text(n)
	if l, e := spot.Pick(x.Show(), got); e != api.OK || l[0] != text {
		t.Fatalf("%v: %v: got %q %d, want %q", x, got, l, e, text)
	}
}

// wantNoSpan holds that a node has no span, and a text that is nothing.
func wantNoSpan(t *testing.T, x tree.Tree, n int) {
	t.Helper()
	if got, e := x.Span(n); got != (spot.Span{}) || e != api.ErrNone {
		t.Fatalf("%v: Span(%d): got %v %d", x, n, got, e)
	}
	if got, e := x.Text(n); got != "" || e != api.OK {
		t.Fatalf("%v: Text(%d): got %q %d", x, n, got, e)
	}
}

// wantError holds the error of all that is asked of a node, beside which is nothing.
func wantError(t *testing.T, x tree.Tree, n int, want api.Errno) {
	t.Helper()
	if got, e := x.Dump(n); got != "" || e != want {
		t.Fatalf("%v: Dump(%d): got %q %d, want %d", x, n, got, e, want)
	}
	if got, e := x.Text(n); got != "" || e != want {
		t.Fatalf("%v: Text(%d): got %q %d, want %d", x, n, got, e, want)
	}
	if got, e := x.Span(n); got != (spot.Span{}) || e != want {
		t.Fatalf("%v: Span(%d): got %v %d, want %d", x, n, got, e, want)
	}
}

// farPlaces are places where no node is.
func farPlaces(x tree.Tree) []int {
	return []int{-1, -2, math.MinInt, len(x.Nodes), len(x.Nodes) + 1, math.MaxInt}
}

// wantModel holds all that is told of a tree against the plainer ways; the tokens' places are those of their own text.
func wantModel(t *testing.T, x tree.Tree) {
	t.Helper()
	if got := x.Right(); got != isRight(x) {
		t.Fatalf("%v: Right: got %t", x, got)
	}
	if x.Root() != len(x.Nodes)-1 {
		t.Fatalf("%v: Root: got %d", x, x.Root())
	}
	for _, n := range farPlaces(x) {
		if isRight(x) {
			wantError(t, x, n, api.ErrRange)
		} else {
			wantError(t, x, n, api.ErrForm)
		}
	}
	for n := range x.Nodes {
		if !isRight(x) {
			wantError(t, x, n, api.ErrForm)
			continue
		}
		text, ok := texted(x, n)
		wantNode(t, x, n, dumped(x, n), text)
		if text == "" || !ok {
			wantNoSpan(t, x, n)
			continue
		}
		from := x.Tokens[leavesBelow(x, n)[0]].At
		wantSpan(t, x, n, spot.Span{From: from, To: from + len(text)})
	}
}

func TestKinds(t *testing.T) { // P6.1
	kinds := []int{tree.Program, tree.Import, tree.Def, tree.Param, tree.Base, tree.Clause, tree.Let, tree.If, tree.Assert, tree.Binary, tree.Unary, tree.Group, tree.Call, tree.Name, tree.Numeral, tree.Truth, tree.Result, tree.Alone, tree.Leaf}
	for i, kind := range kinds {
		if kind != i+1 {
			t.Errorf("kind %d is %d", i+1, kind)
		}
	}
}

func TestExample(t *testing.T) { // P6.1, P6.2, P6.3
	b := tree.NewBuilder(lexed(t, "x"))
	name := b.Node(tree.Name, b.Leaf())
	b.Node(tree.Alone, name, b.Leaf())
	x := b.Done()
	if !x.Right() || x.Root() != 3 || x.Show() != "x" {
		t.Fatal(x)
	}
	wantNode(t, x, x.Root(), "(18 (14 x) $)", "x")
	wantModel(t, x)
}

// sample is a tree of " -- a\n f ( x ,1 ) --b", its nodes made in another order than the tokens stand.
func sample(t *testing.T) tree.Tree {
	return tree.Tree{Tokens: lexed(t, " -- a\n f ( x ,1 ) --b"), Nodes: []tree.Node{
		leaf(6), leaf(4), node(tree.Numeral, 1), leaf(2), node(tree.Name, 3), leaf(0), leaf(1), node(tree.Base), leaf(3), leaf(5), node(tree.Call, 5, 6, 4, 8, 2, 9, 7), node(tree.Alone, 10, 0),
	}}
}

func TestSample(t *testing.T) { // P6.1, P6.2
	x := sample(t)
	wantModel(t, x)
	wantNode(t, x, 11, "(18 (13 f ( (14 x) , (15 1) ) (5)) $)", "f ( x ,1 ) --b")
	wantNode(t, x, 10, "(13 f ( (14 x) , (15 1) ) (5))", "f ( x ,1 )")
	wantNode(t, x, 2, "(15 1)", "1")
	wantNode(t, x, 6, "(", "(")
	wantNode(t, x, 0, "$", "")
	wantNode(t, x, 7, "(5)", "")
	wantSpan(t, x, 11, spot.Span{From: 7, To: 21})
	wantSpan(t, x, 10, spot.Span{From: 7, To: 17})
	wantSpan(t, x, 2, spot.Span{From: 14, To: 15})
	wantNoSpan(t, x, 0)
	wantNoSpan(t, x, 7)
	if s := x.Show(); s != " -- a\n f ( x ,1 ) --b" {
		t.Errorf("%q", s)
	}
}

func TestAll(t *testing.T) { // P6.1
	x := sample(t)
	for kind, want := range map[int][]int{tree.Leaf: {0, 1, 3, 5, 6, 8, 9}, tree.Name: {4}, tree.Numeral: {2}, tree.Base: {7}, tree.Call: {10}, tree.Alone: {11}, tree.Truth: nil, 0: nil, 20: nil, -1: nil, math.MaxInt: nil, math.MinInt: nil} {
		if got := x.All(kind); !slices.Equal(got, want) {
			t.Errorf("All(%d): got %v, want %v", kind, got, want)
		}
	}
	// A tree that isn't right is asked for Kinds, tokens and its root all the same.
	odd := tree.Tree{Tokens: []lex.Token{{Lead: "a", Text: "b"}, {Text: "c"}}, Nodes: []tree.Node{{Kind: 20}, {Kind: -1}, {Kind: 20, Kids: []int{9}}}}
	if got := odd.All(20); !slices.Equal(got, []int{0, 2}) || !slices.Equal(odd.All(-1), []int{1}) || odd.Show() != "abc" || odd.Root() != 2 || odd.Right() {
		t.Error(got)
	}
}

func TestNoNode(t *testing.T) { // P6.1, P6.2
	l := lexed(t, "x")
	for _, x := range []tree.Tree{{}, {Nodes: []tree.Node{}, Tokens: []lex.Token{}}, {Tokens: l}} {
		if x.Right() || x.Root() != -1 || len(x.All(tree.Leaf)) != 0 || x.Show() != lex.Whole(x.Tokens) {
			t.Error(x)
		}
		wantModel(t, x)
		wantError(t, x, 0, api.ErrForm)
	}
}

func TestRootWithoutTokens(t *testing.T) { // P6.1, P6.2
	for _, x := range []tree.Tree{
		{Nodes: []tree.Node{node(tree.Program)}},
		{Tokens: []lex.Token{}, Nodes: []tree.Node{{Kind: tree.Program, Token: -1, Kids: []int{}}}},
	} {
		if !x.Right() || x.Root() != 0 || x.Show() != "" {
			t.Error(x)
		}
		wantNode(t, x, 0, "(1)", "")
		wantNoSpan(t, x, 0)
		wantModel(t, x)
	}
	x := tree.Tree{Nodes: []tree.Node{node(tree.Def), node(tree.Import), node(tree.Group, 0), node(tree.Program, 1, 2)}}
	wantModel(t, x)
	wantNode(t, x, 3, "(1 (2) (12 (3)))", "")
	wantNoSpan(t, x, 3)
	wantNoSpan(t, x, 0)
	// The root has no token, though there is one.
	x.Tokens = lexed(t, "")
	wantModel(t, x)
	if x.Right() {
		t.Error("a token that no leaf has")
	}
}

func TestLeafAlone(t *testing.T) { // P6.1, P6.2
	x := tree.Tree{Tokens: lexed(t, " "), Nodes: []tree.Node{leaf(0)}}
	wantModel(t, x)
	wantNode(t, x, 0, "$", "")
	wantNoSpan(t, x, 0)
	x = tree.Tree{Tokens: lexed(t, " ab")[:1], Nodes: []tree.Node{{Kind: tree.Leaf, Kids: []int{}}}}
	wantModel(t, x)
	wantNode(t, x, 0, "ab", "ab")
	wantSpan(t, x, 0, spot.Span{From: 1, To: 3})
}

func TestNotRight(t *testing.T) { // P6.1, P6.2
	for name, turn := range map[string]func(x *tree.Tree){
		"no node":                     func(x *tree.Tree) { x.Nodes = nil },
		"Kind 0":                      func(x *tree.Tree) { x.Nodes[4].Kind = 0 },
		"Kind 20":                     func(x *tree.Tree) { x.Nodes[4].Kind = 20 },
		"Kind below 0":                func(x *tree.Tree) { x.Nodes[7].Kind = -1 },
		"the least Kind":              func(x *tree.Tree) { x.Nodes[7].Kind = math.MinInt },
		"the most Kind":               func(x *tree.Tree) { x.Nodes[11].Kind = math.MaxInt },
		"a leaf's Kind 20":            func(x *tree.Tree) { x.Nodes[0].Kind = 20 },
		"a leaf that is a Name":       func(x *tree.Tree) { x.Nodes[0].Kind = tree.Name },
		"a Base that is a leaf":       func(x *tree.Tree) { x.Nodes[7].Kind = tree.Leaf },
		"a Token of no leaf":          func(x *tree.Tree) { x.Nodes[4].Token = 2 },
		"a Token 0 of no leaf":        func(x *tree.Tree) { x.Nodes[7].Token = 0 },
		"a Token -2 of no leaf":       func(x *tree.Tree) { x.Nodes[11].Token = -2 },
		"a leaf's Token -1":           func(x *tree.Tree) { x.Nodes[5].Token = -1 },
		"a leaf's Token past all":     func(x *tree.Tree) { x.Nodes[0].Token = 7 },
		"a leaf's Token far past all": func(x *tree.Tree) { x.Nodes[0].Token = math.MaxInt },
		"a leaf's Token far below":    func(x *tree.Tree) { x.Nodes[0].Token = math.MinInt },
		"a token of two leaves":       func(x *tree.Tree) { x.Nodes[3].Token = 1 },
		"leaves in another order":     func(x *tree.Tree) { x.Nodes[3].Token, x.Nodes[8].Token = 3, 2 },
		"kids in another order":       func(x *tree.Tree) { x.Nodes[11].Kids = []int{0, 10} },
		"a leaf with a kid":           func(x *tree.Tree) { x.Nodes[8].Kids, x.Nodes[10].Kids = []int{7}, []int{5, 6, 4, 8, 2, 9} },
		"a kid twice in one node":     func(x *tree.Tree) { x.Nodes[10].Kids = append(x.Nodes[10].Kids, 7) },
		"a kid of two nodes":          func(x *tree.Tree) { x.Nodes[11].Kids = []int{10, 0, 7} },
		"two kids of two nodes":       func(x *tree.Tree) { x.Nodes[11].Kids = []int{10, 10} },
		"no node's kid":               func(x *tree.Tree) { x.Nodes[10].Kids = x.Nodes[10].Kids[:6] },
		"a leaf that is no kid":       func(x *tree.Tree) { x.Nodes[11].Kids = []int{10} },
		"a kid that is itself":        func(x *tree.Tree) { x.Nodes[7].Kids = []int{7} },
		"a root that is a kid":        func(x *tree.Tree) { x.Nodes[7].Kids = []int{11} },
		"a root that is its kid":      func(x *tree.Tree) { x.Nodes[11].Kids = []int{10, 0, 11} },
		"a kid behind":                func(x *tree.Tree) { x.Nodes[2].Kids, x.Nodes[10].Kids[5] = []int{1, 9}, 7 },
		"a kid that is none":          func(x *tree.Tree) { x.Nodes[7].Kids = []int{-1} },
		"a kid past all":              func(x *tree.Tree) { x.Nodes[11].Kids = []int{10, 0, 12} },
		"a kid far past all":          func(x *tree.Tree) { x.Nodes[11].Kids = []int{10, 0, math.MaxInt} },
		"a kid far below all":         func(x *tree.Tree) { x.Nodes[11].Kids = []int{math.MinInt, 10, 0} },
		"a token more":                func(x *tree.Tree) { x.Tokens = append(x.Tokens, lex.Token{Kind: lex.End}) },
		"a token less":                func(x *tree.Tree) { x.Tokens = x.Tokens[:6] },
		"a token ahead of all":        func(x *tree.Tree) { x.Tokens = append([]lex.Token{{Kind: lex.Sign}}, x.Tokens...) },
		"no token":                    func(x *tree.Tree) { x.Tokens = nil },
		"a root more":                 func(x *tree.Tree) { x.Nodes = append(x.Nodes, node(tree.Program)) },
		"the end left out":            func(x *tree.Tree) { x.Nodes = append(x.Nodes[:11], node(tree.Alone, 10)) },
		"without a root":              func(x *tree.Tree) { x.Nodes = x.Nodes[:11] },
	} {
		x := sample(t)
		turn(&x)
		if x.Right() {
			t.Errorf("%s: %v", name, x)
		}
		wantModel(t, x)
		wantError(t, x, 0, api.ErrForm)
	}
}

// allNodes are nodes of two Kinds, with each of some tokens and kids.
func allNodes() []tree.Node {
	var out []tree.Node
	for _, kind := range []int{tree.Name, tree.Leaf} {
		for token := -1; token < 2; token++ {
			for _, kids := range [][]int{nil, {0}, {1}, {0, 1}, {1, 0}, {0, 0}, {-1}, {2}} {
				out = append(out, tree.Node{Kind: kind, Token: token, Kids: kids})
			}
		}
	}
	return out
}

func TestAllSmallTrees(t *testing.T) { // P6.1, P6.2
	right, nodes := 0, allNodes()
	for _, s := range []string{"", "a", "a b"} {
		x := tree.Tree{Tokens: lexed(t, s)[:len(strings.Fields(s))]}
		hold := func() {
			if x.Right() || isRight(x) {
				right++
				wantModel(t, x)
			}
		}
		for _, a := range nodes {
			x.Nodes = []tree.Node{a}
			hold()
			for _, b := range nodes {
				x.Nodes = []tree.Node{a, b}
				hold()
				for _, c := range nodes {
					x.Nodes = []tree.Node{a, b, c}
					hold()
				}
			}
		}
	}
	// Without a token: a node, two in a row, three in a row, two beneath one (of two orders). With one: the leaf, it beneath one or two, it and a node without a leaf beneath one (of two orders each). With two: both beneath one (of two orders of making).
	if right != 1+1+3+1+1+1+4+2 {
		t.Error(right)
	}
}

// draw is a right tree over tokens, its nodes in some order with kids ahead.
func draw(r *rand.Rand, tokens []lex.Token) tree.Tree {
	var nodes []tree.Node
	var tops []int
	for i := range tokens {
		nodes = append(nodes, leaf(i))
		tops = append(tops, i)
	}
	join := func(from, to int) {
		nodes = append(nodes, node(1+r.IntN(18), tops[from:to]...))
		tops = slices.Replace(slices.Clone(tops), from, to, len(nodes)-1)
	}
	for range r.IntN(12) {
		from := r.IntN(len(tops) + 1)
		join(from, from+r.IntN(len(tops)-from+1))
	}
	if len(tops) != 1 {
		join(0, len(tops))
	}
	return tree.Tree{Tokens: tokens, Nodes: shuffled(r, nodes)}
}

// shuffled are the same nodes in another order, kids ahead.
func shuffled(r *rand.Rand, nodes []tree.Node) []tree.Node {
	place := map[int]int{}
	var out []tree.Node
	for len(out) < len(nodes) {
		n := r.IntN(len(nodes))
		_, done := place[n]
		ready := !done
		for _, kid := range nodes[n].Kids {
			_, ok := place[kid]
			ready = ready && ok
		}
		if !ready {
			continue
		}
		next := tree.Node{Kind: nodes[n].Kind, Token: nodes[n].Token}
		for _, kid := range nodes[n].Kids {
			next.Kids = append(next.Kids, place[kid])
		}
		place[n] = len(out)
		out = append(out, next)
	}
	return out
}

// spoil changes one thing of a tree.
func spoil(r *rand.Rand, x tree.Tree) {
	n := &x.Nodes[r.IntN(len(x.Nodes))]
	place := r.IntN(len(x.Nodes)+2) - 1
	switch r.IntN(5) {
	case 0:
		n.Kind = r.IntN(22) - 1
	case 1:
		n.Token = r.IntN(len(x.Tokens)+3) - 2
	case 2:
		n.Kids = append(n.Kids, place)
	case 3:
		if len(n.Kids) > 0 {
			n.Kids[r.IntN(len(n.Kids))] = place
		}
	case 4:
		if len(n.Kids) > 1 {
			n.Kids[0], n.Kids[1] = n.Kids[1], n.Kids[0]
		}
	}
}

func TestManyTrees(t *testing.T) { // P6.1, P6.2
	r := rand.New(rand.NewPCG(6, 6))
	words := []string{"let", " x", "--\n(", "12", " ", ")", "\t=", " -- é\n", ">=", "-"}
	rights := 0
	for range 4000 {
		var s strings.Builder
		for range r.IntN(8) {
			s.WriteString(words[r.IntN(len(words))])
		}
		l, f := lex.Lex(s.String())
		if f.E != api.OK {
			continue
		}
		x := draw(r, l[:len(l)-r.IntN(2)])
		if !x.Right() {
			t.Fatal(x)
		}
		wantModel(t, x)
		spoil(r, x)
		wantModel(t, x)
		if x.Right() {
			rights++
		}
	}
	if rights < 100 {
		t.Errorf("only %d trees are still right", rights)
	}
}

func TestTokensThatNoTextHas(t *testing.T) { // P6.1, P6.2
	odd := []lex.Token{
		{Kind: lex.End, Lead: "\n", Text: "e", At: 3}, {Kind: -7, Lead: "ab", Text: "\xff\x00", At: 9}, {}, {Kind: lex.End, Lead: "--"}, {Kind: 99, Lead: "z", Text: "\n"},
	}
	x := tree.Tree{Tokens: odd, Nodes: []tree.Node{leaf(0), leaf(1), leaf(2), node(tree.Group, 2), leaf(3), node(tree.Base), leaf(4), node(tree.Truth, 1, 3), node(tree.Name, 4, 5), node(tree.If, 0, 7, 8, 6)}}
	if !x.Right() || x.Show() != "\neab\xff\x00--z\n" {
		t.Errorf("%q", x.Show())
	}
	wantNode(t, x, 9, "(8 $ (16 \xff\x00 (12 )) (14 $ (5)) \n)", "eab\xff\x00--z\n")
	wantNode(t, x, 7, "(16 \xff\x00 (12 ))", "\xff\x00")
	wantNode(t, x, 0, "$", "e")
	wantNode(t, x, 2, "", "")
	wantNoSpan(t, x, 2)
	wantNoSpan(t, x, 3)
	wantNoSpan(t, x, 8)
	wantError(t, x, 10, api.ErrRange)
	for _, at := range []int{math.MinInt, -1, 0, 1, math.MaxInt} {
		for i := range x.Tokens {
			x.Tokens[i].At = at
		}
		for n := range x.Nodes {
			text, _ := x.Text(n)
			if _, e := x.Span(n); (e == api.OK) != (text != "") {
				t.Errorf("Span(%d) with all at %d: %d", n, at, e)
			}
		}
	}
}

func TestSpanOfAPieceOfAText(t *testing.T) { // P6.2
	// Tokens are told where they stand, though the text's first ones aren't among the tree's.
	b := tree.NewBuilder(lexed(t, "let xy = (a)")[1:3])
	both := b.Node(tree.Group, b.Leaf(), b.Leaf())
	x := b.Done()
	if got, e := x.Span(both); got != (spot.Span{From: 4, To: 8}) || e != api.OK {
		t.Error(got, e)
	}
	wantNode(t, x, both, "(12 xy =)", "xy =")
}

func TestDeepTree(t *testing.T) { // P1, P6.2
	const deep = 1 << 20
	defer debug.SetMaxStack(debug.SetMaxStack(1 << 24))
	x := tree.Tree{Tokens: lexed(t, "x")[:1], Nodes: []tree.Node{leaf(0)}}
	for i := range deep {
		x.Nodes = append(x.Nodes, node(tree.Group, i))
	}
	if !x.Right() || x.Root() != deep {
		t.Fatal(x.Root())
	}
	if s, e := x.Text(deep); s != "x" || e != api.OK {
		t.Error(s, e)
	}
	if p, e := x.Span(deep); p != (spot.Span{To: 1}) || e != api.OK {
		t.Error(p, e)
	}
	if s, e := x.Dump(deep); s != strings.Repeat("(12 ", deep)+"x"+strings.Repeat(")", deep) || e != api.OK {
		t.Error(len(s), e)
	}
}

func TestWideTree(t *testing.T) { // P1, P6.1, P6.2, P6.3
	const wide = api.MaxText
	s := strings.Repeat("(", wide)
	b := tree.NewBuilder(lexed(t, s))
	var kids []int
	for range wide + 1 {
		kids = append(kids, b.Leaf())
	}
	root := b.Node(tree.Program, kids...)
	x := b.Done()
	if root != wide+1 || !x.Right() || x.Show() != s || len(x.All(tree.Leaf)) != wide+1 {
		t.Fatal(root)
	}
	if text, e := x.Text(root); text != s || e != api.OK {
		t.Error(len(text), e)
	}
	if dump, e := x.Dump(root); dump != "(1"+strings.Repeat(" (", wide)+" $)" || e != api.OK {
		t.Error(len(dump), e)
	}
}

func TestPeekAndLeaf(t *testing.T) { // P6.3
	l := lexed(t, " not x --")
	b := tree.NewBuilder(l)
	for i := range l {
		for range 2 {
			if got := b.Peek(); got != l[i] {
				t.Fatalf("token %d: got %v", i, got)
			}
		}
		if got := b.Leaf(); got != i {
			t.Fatalf("leaf %d: got %d", i, got)
		}
	}
	for range 3 {
		if got, last := b.Leaf(), b.Peek(); got != -1 || last != l[2] {
			t.Fatal(got, last)
		}
	}
	// A leaf that isn't made takes no place.
	if got := b.Node(tree.Truth, 2, 1, 0); got != 3 {
		t.Error(got)
	}
	want := []tree.Node{leaf(0), leaf(1), leaf(2), node(tree.Truth, 2, 1, 0)}
	if x := b.Done(); !reflect.DeepEqual(x.Nodes, want) || !slices.Equal(x.Tokens, l) {
		t.Error(x)
	}
}

func TestBuilderWithoutTokens(t *testing.T) { // P6.3
	for _, l := range [][]lex.Token{nil, {}} {
		b := tree.NewBuilder(l)
		if b.Leaf() != -1 || b.Peek() != (lex.Token{}) || b.Leaf() != -1 {
			t.Error("a token of none")
		}
		if x := b.Done(); len(x.Nodes) != 0 || len(x.Tokens) != 0 || x.Root() != -1 || x.Right() {
			t.Error(x)
		}
		if b.Node(tree.Program) != 0 || b.Node(tree.Alone, 0) != 1 {
			t.Error("nodes without tokens")
		}
		wantModel(t, b.Done())
		wantNode(t, b.Done(), 1, "(18 (1))", "")
	}
}

func TestNode(t *testing.T) { // P6.3
	b := tree.NewBuilder(lexed(t, "a b"))
	refuse := func(kids ...int) {
		t.Helper()
		before := b.Done()
		if got := b.Node(tree.Group, kids...); got != -1 || !reflect.DeepEqual(b.Done(), before) {
			t.Fatalf("%v: got %d", kids, got)
		}
	}
	for _, far := range []int{0, -1, 1, math.MinInt, math.MaxInt} {
		refuse(far)
	}
	b.Leaf()
	for _, far := range []int{-1, 1, 2, math.MinInt, math.MaxInt} {
		refuse(far)
		refuse(0, far)
		refuse(far, 0)
		refuse(0, far, 0)
	}
	if got := b.Node(tree.Name, 0); got != 1 {
		t.Error(got)
	}
	refuse(2)
	if got := b.Peek().Text; got != "b" {
		t.Errorf("a node uses no token: %q", got)
	}
	if b.Leaf() != 2 || b.Node(tree.Alone, 1, 2) != 3 || b.Node(tree.If) != 4 {
		t.Error(b.Done())
	}
	want := []tree.Node{leaf(0), node(tree.Name, 0), leaf(1), node(tree.Alone, 1, 2), node(tree.If)}
	if x := b.Done(); !reflect.DeepEqual(x.Nodes, want) {
		t.Error(x.Nodes)
	}
}

func TestNodeOfAnyKindAndKids(t *testing.T) { // P6.3
	// What is made need not be right: only kids that aren't there are refused.
	b := tree.NewBuilder(lexed(t, ""))
	b.Leaf()
	want := []tree.Node{leaf(0)}
	for _, kind := range []int{math.MinInt, -1, 0, 1, 18, 19, 20, math.MaxInt} {
		for _, kids := range [][]int{nil, {0}, {0, 0}, {len(want) - 1}} {
			if got := b.Node(kind, kids...); got != len(want) {
				t.Fatalf("Node(%d, %v): got %d", kind, kids, got)
			}
			want = append(want, tree.Node{Kind: kind, Token: -1, Kids: kids})
		}
	}
	x := b.Done()
	if !reflect.DeepEqual(x.Nodes, want) {
		t.Error(x.Nodes)
	}
	wantModel(t, x)
}

func TestDoneSoFar(t *testing.T) { // P6.3
	l := lexed(t, "a b")
	b := tree.NewBuilder(l)
	made := []int{}
	for i, step := range []func() int{b.Leaf, b.Leaf, func() int { return b.Node(tree.Group, 0, 1) }, b.Leaf, b.Leaf, func() int { return b.Node(tree.Alone, 2, 3) }} {
		x := b.Done()
		if len(x.Nodes) != len(made) || !slices.Equal(x.Tokens, l) || x.Root() != len(made)-1 {
			t.Fatalf("%d: %v", i, x)
		}
		if n := step(); n >= 0 {
			made = append(made, n)
		}
	}
	if !slices.Equal(made, []int{0, 1, 2, 3, 4}) || !b.Done().Right() {
		t.Error(made)
	}
}

func TestArgumentsStay(t *testing.T) { // P6.1, P6.2, P6.3
	x, same := sample(t), sample(t)
	for n := -1; n < 13; n++ {
		x.Right()
		x.Root()
		x.Show()
		x.All(n)
		x.Dump(n)
		x.Text(n)
		x.Span(n)
	}
	if !reflect.DeepEqual(x, same) {
		t.Error(x)
	}
	l := slices.Grow(lexed(t, "a b"), 4)
	kids := append(make([]int, 0, 4), 0, 1)
	spareTokens, spareKids := slices.Clone(l[:cap(l)]), slices.Clone(kids[:4])
	b := tree.NewBuilder(l)
	b.Leaf()
	b.Leaf()
	b.Node(tree.Group, kids...)
	b.Node(tree.Group, append(kids, 9)[:2]...)
	spareKids[2] = 9
	x = b.Done()
	clear(x.Tokens[:cap(x.Tokens)])
	clear(x.Nodes[2].Kids[:cap(x.Nodes[2].Kids)])
	if !slices.Equal(l[:cap(l)], spareTokens) || !slices.Equal(kids[:4], spareKids) {
		t.Error(l, kids)
	}
}

func TestArgumentsAreNotKept(t *testing.T) { // P6.3
	l, kids := lexed(t, "a b"), []int{0, 1}
	b := tree.NewBuilder(l)
	b.Leaf()
	b.Leaf()
	n := b.Node(tree.Group, kids...)
	clear(kids)
	clear(l)
	b.Node(tree.Alone, n, b.Leaf())
	x := b.Done()
	wantModel(t, x)
	wantNode(t, x, 4, "(18 (12 a b) $)", "a b")
	if last := b.Peek(); last.Kind != lex.End {
		t.Error(last)
	}
}

func TestAnswersAreNewLists(t *testing.T) { // P6.1, P6.3
	b := tree.NewBuilder(lexed(t, "a b"))
	b.Node(tree.Group, b.Leaf(), b.Leaf())
	b.Node(tree.Alone, 2, b.Leaf())
	want := b.Done()
	spoilt := b.Done()
	for i := range spoilt.Nodes {
		kids := spoilt.Nodes[i].Kids
		for range 4 {
			kids = append(kids, -9)
		}
		clear(spoilt.Nodes[i].Kids[:cap(spoilt.Nodes[i].Kids)])
		for j := range spoilt.Nodes {
			if j > i && !reflect.DeepEqual(spoilt.Nodes[j], want.Nodes[j]) {
				t.Errorf("the kids of %d and %d share", i, j)
			}
		}
	}
	clear(spoilt.Nodes[:cap(spoilt.Nodes)])
	clear(spoilt.Tokens[:cap(spoilt.Tokens)])
	again := b.Done()
	if !reflect.DeepEqual(again, want) || !want.Right() {
		t.Error(again, want)
	}
	leaves := want.All(tree.Leaf)
	clear(leaves[:cap(leaves)])
	if !slices.Equal(want.All(tree.Leaf), []int{0, 1, 3}) {
		t.Error(want)
	}
	// What is made later doesn't stand in the spare room of what was told.
	first := append(again.Nodes, tree.Node{})
	b.Node(tree.Truth)
	if first[len(first)-1].Kind != 0 || b.Done().Nodes[5].Kind != tree.Truth {
		t.Error(first)
	}
}

// within tells whether some of a text's memory is another one's.
func within(a, b string) bool {
	if a == "" || b == "" {
		return false
	}
	from := func(s string) uintptr { return uintptr(unsafe.Pointer(unsafe.StringData(s))) }
	return from(a) < from(b)+uintptr(len(b)) && from(b) < from(a)+uintptr(len(a))
}

func TestTextsAreNewMemory(t *testing.T) { // P6.1, P6.2, P6.3
	l := lexed(t, " abc --d")
	b := tree.NewBuilder(l)
	var told []string
	keep := func(tokens ...lex.Token) {
		for _, token := range tokens {
			told = append(told, token.Lead, token.Text)
		}
	}
	keep(l...)
	keep(b.Peek(), b.Peek())
	b.Node(tree.Alone, b.Leaf(), b.Leaf())
	keep(b.Peek())
	x, y := b.Done(), b.Done()
	keep(x.Tokens...)
	keep(y.Tokens...)
	for range 2 {
		told = append(told, x.Show())
		for n := range x.Nodes {
			text, _ := x.Text(n)
			dump, _ := x.Dump(n)
			if dump != "$" {
				told = append(told, dump)
			}
			told = append(told, text)
		}
	}
	for i, a := range told {
		for _, b := range told[:i] {
			if within(a, b) {
				t.Errorf("%q and %q", a, b)
			}
		}
	}
}
