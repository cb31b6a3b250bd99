package parse_test

import (
	"math"
	"math/rand/v2"
	"reflect"
	"slices"
	"strings"
	"testing"

	"touchstone/api"
	"touchstone/lex"
	"touchstone/parse"
	"touchstone/tree"
)

// wantModel holds what comes of a text without a fault of layer 5 against the chapter's grammar, and tells the error.
func (r reader) wantModel(t *testing.T, g grammar, s string, depth int) api.Errno {
	t.Helper()
	l, f := lex.Lex(s)
	if f.E != api.OK {
		t.Fatalf("%q: %v", s, f)
	}
	dump, f := newChart(g, r.of, depth).read(l)
	if f.E != api.OK {
		r.wantFault(t, s, depth, f)
	} else {
		r.wantTree(t, s, depth, dump)
	}
	return f.E
}

// allTokens are a token of each kind, and each key and sign.
func allTokens() []string {
	return append(lex.Keys(), strings.Fields("x 7 ( ) { } , : ; . + - * / % = <> < <= > >= && || =>")...)
}

// wantAll holds all texts that begin so, with at most so many of these tokens behind: each that a text can go on with is gone on with, and each other one must be the fault.
func wantAll(t *testing.T, r reader, begins string, tokens []string, most, depth int) int {
	t.Helper()
	c := newChart(newGrammar(), r.of, depth)
	l, _ := lex.Lex(begins)
	if _, f := c.read(l[:len(l)-1]); f.E != api.OK {
		t.Fatal(begins, f)
	}
	held := 0
	var from func(s string, left int)
	from = func(s string, left int) {
		held++
		n := len(c.sets) - 1
		if e := c.push(lex.Token{Kind: lex.End}); e == api.OK {
			r.wantTree(t, s, depth, c.whole)
			c.pop(n)
		} else {
			r.wantFault(t, s, depth, lex.Fault{E: e, At: len(s)})
		}
		for _, token := range tokens {
			next := s + token + " "
			l, _ := lex.Lex(token)
			if e := c.push(l[0]); e != api.OK {
				r.wantFault(t, next+"( + fun", depth, lex.Fault{E: e, At: len(s)})
				continue
			}
			if left > 0 {
				from(next, left-1)
			}
			c.pop(n)
		}
	}
	from(begins, most)
	return held
}

func TestAllShortFormulas(t *testing.T) { // P7.1, P7.2
	few := strings.Fields("x res ( ) - not * < && || =>")
	for depth := 1; depth <= 4; depth++ {
		if n := wantAll(t, formulas(), "", allTokens(), 2, depth); n < 20 {
			t.Error(n)
		}
		if n := wantAll(t, formulas(), "", few, 5, depth); n < 200 {
			t.Error(n)
		}
		wantAll(t, programs(), "fun f(x:int{ ", few, 3, depth)
		wantAll(t, programs(), "fun f(x:int):int{ ", append(few, "}", "("), 3, depth)
	}
}

func TestAllShortBodies(t *testing.T) { // P7.1
	few := strings.Fields("x 7 ( ) , . - not + = => let in if then else assert ;")
	for depth := 1; depth <= 3; depth++ {
		wantAll(t, programs(), head+" ", allTokens(), 2, depth)
		wantAll(t, programs(), head+" ", few, 4, depth)
		for _, s := range []string{"let x = ", "if x then ", "if x then x else ", "assert x in ", "x ( ", "x . x ( x ", "( "} {
			wantAll(t, programs(), head+s, few, 2, depth+1)
		}
	}
}

func TestAllShortPrograms(t *testing.T) { // P7.1
	if n := wantAll(t, programs(), "", allTokens(), 8, 2); n < 100 {
		t.Error(n)
	}
	for _, s := range []string{"fun f ( x : int ", "fun f ( x : int { x } ", "fun f ( ) : bool ", "fun f ( ) : bool { res } = ", "fun f ( ) : int = 1 ; ", "import m ; "} {
		wantAll(t, programs(), s, allTokens(), 2, 2)
	}
}

// drawer makes texts by the grammar, by chance.
type drawer struct {
	g grammar
	r *rand.Rand
	// room is how many tokens more there may be, but for those that come to an end.
	room int
	made []string
}

func (d *drawer) some(texts ...string) {
	d.made = append(d.made, texts[d.r.IntN(len(texts))])
	d.room--
}

// draw makes tokens of a name.
func (d *drawer) draw(name string) {
	rules := d.g[name]
	switch {
	case strings.HasPrefix(name, "FULL"):
		d.some("fun", "import", "x", ")")
	case name == "WORD":
		d.some("x", "y2", "Int", "f_")
	case name == "NUMBER":
		d.some("0", "1", "12345678901234567890")
	case name == "END":
	case rules == nil:
		d.some(name)
	default:
		if d.room < 0 || d.r.IntN(3) == 0 {
			rules = shortest(rules)
		}
		for _, p := range rules[d.r.IntN(len(rules))].parts {
			d.draw(p.name)
		}
	}
}

// shortest are the rules with the fewest parts. With these alone all comes to an end.
func shortest(rules []*rule) []*rule {
	least := slices.MinFunc(rules, func(a, b *rule) int { return len(a.parts) - len(b.parts) })
	return slices.DeleteFunc(slices.Clone(rules), func(r *rule) bool { return len(r.parts) > len(least.parts) })
}

// written is tokens as a text, with something between them.
func written(r *rand.Rand, tokens []string) string {
	var out strings.Builder
	for _, token := range tokens {
		out.WriteString([]string{" ", " ", " ", "\n", "\t\r ", " -- (x\n", "--\n"}[r.IntN(7)])
		out.WriteString(token)
	}
	return out.String()
}

// spoilt are tokens of which one is another one, or is left out, or stands twice, or has changed its place.
func spoilt(r *rand.Rand, tokens []string) []string {
	out := slices.Clone(tokens)
	if len(out) == 0 {
		return []string{"x"}
	}
	i, all := r.IntN(len(out)), allTokens()
	switch r.IntN(4) {
	case 0:
		out[i] = all[r.IntN(len(all))]
	case 1:
		out = slices.Delete(out, i, i+1)
	case 2:
		out = slices.Insert(out, i, all[r.IntN(len(all))])
	case 3:
		j := r.IntN(len(out))
		out[i], out[j] = out[j], out[i]
	}
	return out
}

func TestManyTexts(t *testing.T) { // P7.1, P7.2
	r, g := rand.New(rand.NewPCG(7, 7)), newGrammar()
	told := map[api.Errno]int{}
	for range 3000 {
		which := []reader{programs(), formulas()}[r.IntN(2)]
		d := &drawer{g: g, r: r, room: r.IntN(80)}
		d.draw(which.of)
		depth := []int{1, 2, 3, 4, 6, 200}[r.IntN(6)]
		told[which.wantModel(t, g, written(r, d.made), depth)]++
		told[which.wantModel(t, g, written(r, spoilt(r, d.made)), depth)]++
	}
	for _, e := range []api.Errno{api.OK, api.ErrSyntax, api.ErrDepth} {
		if told[e] < 300 {
			t.Errorf("error %d: only %d texts", e, told[e])
		}
	}
}

// everything is a program with all that the grammar has.
const everything = "import m; import n; pub fun f(x: int {x > 0 && not x = 7}, y: bool {y => x < 9 || (x >= res)}): int {-res <> x * 2 / 3 % 4} = let z = m.g(x, 1 + y) in if y then z - 1 else assert z <= 0 in f(z, not (y)); fun h(): bool = true;"

// tokensOf are a text's tokens, without the end.
func tokensOf(s string) []string {
	l, _ := lex.Lex(s)
	var out []string
	for _, token := range l[:len(l)-1] {
		out = append(out, token.Text)
	}
	return out
}

// wantBehind holds what comes of a text that a chart has read, with something behind it.
func wantBehind(t *testing.T, c *chart, ahead, behind string) {
	t.Helper()
	l, _ := lex.Lex(ahead + " " + behind)
	n := len(c.sets) - 1
	dump, f := c.read(l[n:])
	c.pop(n)
	if f.E != api.OK {
		programs().wantFault(t, ahead+" "+behind, c.depth, f)
	} else {
		programs().wantTree(t, ahead+" "+behind, c.depth, dump)
	}
}

func TestEachTokenAtEachPlace(t *testing.T) { // P7.1
	g, tokens := newGrammar(), tokensOf(everything)
	c := newChart(g, "program", 7)
	for i := range len(tokens) + 1 {
		ahead, rest := strings.Join(tokens[:i], " "), tokens[i:]
		wantBehind(t, c, ahead, "")
		for _, token := range allTokens() {
			wantBehind(t, c, ahead, strings.Join(append([]string{token}, rest...), " "))
			if len(rest) > 0 {
				wantBehind(t, c, ahead, strings.Join(append([]string{token}, rest[1:]...), " "))
			}
		}
		if len(rest) > 0 {
			l, _ := lex.Lex(rest[0])
			c.push(l[0])
		}
	}
	for depth := 1; depth < 9; depth++ {
		if e := programs().wantModel(t, g, everything, depth); (e == api.OK) != (depth >= 7) {
			t.Error(depth, e)
		}
	}
}

func TestLimitsByTheGrammar(t *testing.T) { // P7.1
	g := newGrammar()
	imports, defs := times("import m;", "", 16), times(head+"1;", "", 64)
	for _, s := range []string{"fun f(" + times("x:int", ",", 8), head + "f(" + times("1", ",", 8), head + "1-(-f(m.f(" + times("1", ",", 8), imports, defs, imports + defs} {
		for _, depth := range []int{4, 5} {
			l, _ := lex.Lex(s)
			c := newChart(g, "program", depth)
			if _, f := c.read(l[:len(l)-1]); (f.E == api.OK) != (depth == 5 || !strings.Contains(s, "-")) {
				t.Fatal(s, f)
			} else if f.E != api.OK {
				programs().wantFault(t, s, depth, f)
				continue
			}
			for _, between := range []string{"", ",", ", ,", ",x:int", ",x", "x", ")"} {
				for _, token := range append(allTokens(), "") {
					wantBehind(t, c, s, between+" "+token)
				}
			}
		}
	}
}

func TestManyOneBehindAnother(t *testing.T) { // P1, P7.1, P7.2
	for _, sign := range []string{"+", "%", "&&", "||", "*a-a<a&&a||"} {
		s := times("1", sign, (api.MaxText-len(head)-1)/(1+len(sign)))
		formulas().wantOK(t, s, 1)
		programs().wantHere(t, head+s+"@", 1, api.ErrSyntax)
	}
	for s, first := range map[string]int{"(": 1, "not ": 4, "- ": 2, "a=>": 3, "let x=": 6, "f(": 2, "if ": 3, "f(1,": 2} {
		programs().wantFault(t, head+strings.Repeat(s, 8000), 200, lex.Fault{E: api.ErrDepth, At: len(head) + 199*len(s) + first})
	}
	formulas().wantOK(t, "1 --"+strings.Repeat("-", 65000)+"\n + 1", 1)
}

func TestAnything(t *testing.T) { // P1, P7.1, P7.2
	r := rand.New(rand.NewPCG(1, 7))
	all := append(allTokens(), "import m;", "fun f(x:int", "):int=", "{x", "--", "\n", "\xff", "0", "", "00", "!")
	for range 30000 {
		var s strings.Builder
		for range r.IntN(30) {
			s.WriteString(all[r.IntN(len(all))])
			s.WriteString([]string{"", " "}[r.IntN(2)])
		}
		depth := []int{1, 2, 50, 200, 0, 201, -1, math.MinInt, math.MaxInt}[r.IntN(9)]
		for _, which := range []reader{programs(), formulas()} {
			if _, f := which.read(s.String(), depth); f.E != api.OK {
				which.wantFault(t, s.String(), depth, f)
			} else {
				which.wantOK(t, s.String(), depth)
			}
		}
	}
}

func TestTreesAreTheirOwn(t *testing.T) { // P7.1, P7.2
	x, _ := parse.Parse(everything, 9)
	y, _ := parse.Parse(everything, 9)
	if !reflect.DeepEqual(x, y) {
		t.Error("one text, two trees")
	}
	want, _ := y.Dump(y.Root())
	// All of a list is written over, spare room too: no other list may change.
	room := func(n tree.Node) []int { return n.Kids[:cap(n.Kids)] }
	for i, n := range x.Nodes {
		for j := range room(n) {
			room(n)[j] = i
		}
	}
	for i, n := range x.Nodes {
		if slices.ContainsFunc(room(n), func(kid int) bool { return kid != i }) {
			t.Fatal(i, n)
		}
	}
	clear(x.Tokens)
	if got, e := y.Dump(y.Root()); got != want || e != api.OK {
		t.Error(got, e)
	}
	programs().wantTree(t, everything, 9, want)
}
