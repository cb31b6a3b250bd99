package parse_test

import (
	"math"
	"slices"
	"strings"
	"testing"

	"touchstone/api"
	"touchstone/lex"
	"touchstone/parse"
	"touchstone/tree"
)

// reader is Parse or Formula, and the rule that it goes by.
type reader struct {
	of   string
	read func(string, int) (tree.Tree, lex.Fault)
}

func programs() reader { return reader{"program", parse.Parse} }

func formulas() reader { return reader{"alone", parse.Formula} }

// wantTree holds that a text has a tree, right and of the whole text, with that dump.
func (r reader) wantTree(t *testing.T, s string, depth int, want string) {
	t.Helper()
	x, f := r.read(s, depth)
	if f != (lex.Fault{}) {
		t.Fatalf("%q, depth %d: fault %v", s, depth, f)
	}
	if dump, e := x.Dump(x.Root()); dump != want || e != api.OK {
		t.Fatalf("%q, depth %d: %d, got\n%s, want\n%s", s, depth, e, dump, want)
	}
	if l, _ := lex.Lex(s); x.Show() != s || !slices.Equal(x.Tokens, l) {
		t.Fatalf("%q, depth %d: got %q", s, depth, x.Show())
	}
}

// wantOK holds that a text has a tree, right and of the whole text.
func (r reader) wantOK(t *testing.T, s string, depth int) {
	t.Helper()
	if x, f := r.read(s, depth); f != (lex.Fault{}) || !x.Right() || x.Show() != s {
		t.Fatalf("%q, depth %d: fault %v", s, depth, f)
	}
}

// wantFault holds a text's fault, beside which is no tree.
func (r reader) wantFault(t *testing.T, s string, depth int, want lex.Fault) {
	t.Helper()
	x, f := r.read(s, depth)
	if f != want {
		t.Fatalf("%q, depth %d: got %v, want %v", s, depth, f, want)
	}
	if len(x.Nodes) != 0 || len(x.Tokens) != 0 {
		t.Fatalf("%q, depth %d: a tree beside %v", s, depth, f)
	}
}

// wantHere holds a text's fault, which is where an @ stands in it (that isn't the text's).
func (r reader) wantHere(t *testing.T, s string, depth int, e api.Errno) {
	t.Helper()
	ahead, behind, ok := strings.Cut(s, "@")
	if !ok {
		t.Fatalf("%q: no place", s)
	}
	r.wantFault(t, ahead+behind, depth, lex.Fault{E: e, At: len(ahead)})
}

// times are a text so many times, with a text between.
func times(s, between string, n int) string {
	return strings.TrimSuffix(strings.Repeat(s+between, n), between)
}

// head is what stands ahead of a body.
const head = "fun f():int="

func TestExamples(t *testing.T) { // P7.1
	for depth := 1; depth <= api.MaxDepth; depth++ {
		programs().wantTree(t, "fun f(x:int):int=x+1;", depth, "(1 (3 fun f ( (4 x : (5 int)) ) : (5 int) = (10 (14 x) + (15 1)) ;) $)")
		programs().wantHere(t, "fun f(@:", depth, api.ErrSyntax)
	}
}

func TestPrograms(t *testing.T) { // P7.1
	for s, want := range map[string]string{
		"":                            "(1 $)",
		" -- nothing":                 "(1 $)",
		"import m;":                   "(1 (2 import m ;) $)",
		"import m;import\tb --\n; ":   "(1 (2 import m ;) (2 import b ;) $)",
		"fun f():int=1;":              "(1 (3 fun f ( ) : (5 int) = (15 1) ;) $)",
		"pub fun f():bool=true;":      "(1 (3 pub fun f ( ) : (5 bool) = (16 true) ;) $)",
		"fun f():int{res>0}=1;":       "(1 (3 fun f ( ) : (5 int) (6 { (10 (17 res) > (15 0)) }) = (15 1) ;) $)",
		"pub fun f(p:bool{p}):int=1;": "(1 (3 pub fun f ( (4 p : (5 bool) (6 { (14 p) })) ) : (5 int) = (15 1) ;) $)",
		"fun f(x:int,y:int{y=x},z:bool):bool{z}=not z;": "(1 (3 fun f ( (4 x : (5 int)) , (4 y : (5 int) (6 { (10 (14 y) = (14 x)) })) , (4 z : (5 bool)) ) : (5 bool) (6 { (14 z) }) = (11 not (14 z)) ;) $)",
		"import m;pub fun f():int=1;fun f():int=2;":     "(1 (2 import m ;) (3 pub fun f ( ) : (5 int) = (15 1) ;) (3 fun f ( ) : (5 int) = (15 2) ;) $)",
	} {
		programs().wantTree(t, s, 2, want)
	}
}

func TestExpressions(t *testing.T) { // P7.1
	for s, want := range map[string]string{
		"let x=1 in x":                              "(7 let x = (15 1) in (14 x))",
		"let x=let y=1 in y in x":                   "(7 let x = (7 let y = (15 1) in (14 y)) in (14 x))",
		"let x=a=b in x=1":                          "(7 let x = (10 (14 a) = (14 b)) in (10 (14 x) = (15 1)))",
		"if a then b else c":                        "(8 if (14 a) then (14 b) else (14 c))",
		"if a then b else c+d":                      "(8 if (14 a) then (14 b) else (10 (14 c) + (14 d)))",
		"if a then if b then 1 else 2 else 3":       "(8 if (14 a) then (8 if (14 b) then (15 1) else (15 2)) else (15 3))",
		"assert a in b=>c":                          "(9 assert (14 a) in (10 (14 b) => (14 c)))",
		"assert let p=a in p in if p then 1 else 2": "(9 assert (7 let p = (14 a) in (14 p)) in (8 if (14 p) then (15 1) else (15 2)))",
		"(let x=1 in x)+1":                          "(10 (12 ( (7 let x = (15 1) in (14 x)) )) + (15 1))",
		"((1))":                                     "(12 ( (12 ( (15 1) )) ))",
		"f()":                                       "(13 f ( ))",
		"m.g()":                                     "(13 m . g ( ))",
		"m . g ( a , if a then b else c)":           "(13 m . g ( (14 a) , (8 if (14 a) then (14 b) else (14 c)) ))",
		"f(f(1),m.f(2,3))*-f()":                     "(10 (13 f ( (13 f ( (15 1) )) , (13 m . f ( (15 2) , (15 3) )) )) * (11 - (13 f ( ))))",
		"f(a=>b,(c))":                               "(13 f ( (10 (14 a) => (14 b)) , (12 ( (14 c) )) ))",
		"a=>f(b)":                                   "(10 (14 a) => (13 f ( (14 b) )))",
	} {
		programs().wantTree(t, head+s+";", 4, "(1 (3 fun f ( ) : (5 int) = "+want+" ;) $)")
	}
}

// someFormulas are formulas that may stand anywhere, and their dumps.
func someFormulas() map[string]string {
	return map[string]string{
		"0":                  "(15 0)",
		"a":                  "(14 a)",
		"true":               "(16 true)",
		"false":              "(16 false)",
		"(a)":                "(12 ( (14 a) ))",
		"-a":                 "(11 - (14 a))",
		"- -1":               "(11 - (11 - (15 1)))",
		"-(a)":               "(11 - (12 ( (14 a) )))",
		"-a*b":               "(10 (11 - (14 a)) * (14 b))",
		"a*-b":               "(10 (14 a) * (11 - (14 b)))",
		"a- -b-c":            "(10 (10 (14 a) - (11 - (14 b))) - (14 c))",
		"-a--r\n-1":          "(10 (11 - (14 a)) - (15 1))",
		"a*b/c%d*e":          "(10 (10 (10 (10 (14 a) * (14 b)) / (14 c)) % (14 d)) * (14 e))",
		"a+b-c+d":            "(10 (10 (10 (14 a) + (14 b)) - (14 c)) + (14 d))",
		"a+b*c-d%e":          "(10 (10 (14 a) + (10 (14 b) * (14 c))) - (10 (14 d) % (14 e)))",
		"(a+b)*c":            "(10 (12 ( (10 (14 a) + (14 b)) )) * (14 c))",
		"a+b<c-d":            "(10 (10 (14 a) + (14 b)) < (10 (14 c) - (14 d)))",
		"not a":              "(11 not (14 a))",
		"not not a":          "(11 not (11 not (14 a)))",
		"not a=b":            "(11 not (10 (14 a) = (14 b)))",
		"not a+b>c&&d":       "(10 (11 not (10 (10 (14 a) + (14 b)) > (14 c))) && (14 d))",
		"a&&b&&c":            "(10 (10 (14 a) && (14 b)) && (14 c))",
		"a&&b<c&&not d":      "(10 (10 (14 a) && (10 (14 b) < (14 c))) && (11 not (14 d)))",
		"a||b||c":            "(10 (10 (14 a) || (14 b)) || (14 c))",
		"a||b&&c||d":         "(10 (10 (14 a) || (10 (14 b) && (14 c))) || (14 d))",
		"a=>b":               "(10 (14 a) => (14 b))",
		"a=>b=>c=>d":         "(10 (14 a) => (10 (14 b) => (10 (14 c) => (14 d))))",
		"a||b=>c||d":         "(10 (10 (14 a) || (14 b)) => (10 (14 c) || (14 d)))",
		"(a=>b)=>c":          "(10 (12 ( (10 (14 a) => (14 b)) )) => (14 c))",
		"(a<b)=(c<d)":        "(10 (12 ( (10 (14 a) < (14 b)) )) = (12 ( (10 (14 c) < (14 d)) )))",
		"a<(not b)":          "(10 (14 a) < (12 ( (11 not (14 b)) )))",
		"not(a=>-b*2>=c||d)": "(11 not (12 ( (10 (14 a) => (10 (10 (10 (11 - (14 b)) * (15 2)) >= (14 c)) || (14 d))) )))",
	}
}

func TestFormulas(t *testing.T) { // P7.1, P7.2
	for s, want := range someFormulas() {
		formulas().wantTree(t, s, 5, "(18 "+want+" $)")
		programs().wantTree(t, head+s+";", 5, "(1 (3 fun f ( ) : (5 int) = "+want+" ;) $)")
		programs().wantTree(t, "fun f(a:int{"+s+"}):int=1;", 5, "(1 (3 fun f ( (4 a : (5 int) (6 { "+want+" })) ) : (5 int) = (15 1) ;) $)")
		programs().wantTree(t, "fun f():int{"+s+"}=1;", 5, "(1 (3 fun f ( ) : (5 int) (6 { "+want+" }) = (15 1) ;) $)")
	}
	formulas().wantTree(t, "res", 1, "(18 (17 res) $)")
	formulas().wantTree(t, "(res)=-res", 2, "(18 (10 (12 ( (17 res) )) = (11 - (17 res))) $)")
}

func TestEachTwoSigns(t *testing.T) { // P7.1, P7.2
	// The signs of one of these bind closer than those of the ones ahead.
	levels := []string{"=>", "||", "&&", "= <> < <= > >=", "+ -", "* / %"}
	each := func(hold func(a, b int, first, second string)) {
		for a, firsts := range levels {
			for b, seconds := range levels {
				for _, first := range strings.Fields(firsts) {
					for _, second := range strings.Fields(seconds) {
						hold(a, b, first, second)
					}
				}
			}
		}
	}
	each(func(a, b int, first, second string) {
		s := "x " + first + " y " + second + " z"
		switch {
		case a == 3 && b == 3:
			s = "x " + first + " y @" + second + " z"
			formulas().wantHere(t, s, 9, api.ErrSyntax)
			programs().wantHere(t, head+s+";", 9, api.ErrSyntax)
		case a < b || a == 0 && b == 0:
			formulas().wantTree(t, s, 9, "(18 (10 (14 x) "+first+" (10 (14 y) "+second+" (14 z))) $)")
		default:
			formulas().wantTree(t, s, 9, "(18 (10 (10 (14 x) "+first+" (14 y)) "+second+" (14 z)) $)")
		}
	})
}

func TestRange(t *testing.T) { // P7.1, P7.2
	for _, r := range []reader{programs(), formulas()} {
		for _, depth := range []int{0, -1, -200, 201, 1 << 32, math.MinInt, math.MaxInt} {
			for _, s := range []string{"", "a", "fun f():int=1;", "a b", "a !", strings.Repeat(" ", api.MaxText+1)} {
				r.wantFault(t, s, depth, lex.Fault{E: api.ErrRange})
			}
		}
	}
	for _, depth := range []int{1, 2, 199, 200} {
		programs().wantOK(t, "", depth)
		formulas().wantOK(t, "a", depth)
	}
}

func TestFaultsOfTokens(t *testing.T) { // P7.1, P7.2
	for _, r := range []reader{programs(), formulas()} {
		r.wantHere(t, "@"+strings.Repeat(" ", api.MaxText+1), 1, api.ErrSize)
		r.wantHere(t, "a @! b", 1, api.ErrLex)
		r.wantHere(t, "a + @01", 1, api.ErrNumber)
		r.wantHere(t, "a @"+strings.Repeat("b", api.MaxName+1), 1, api.ErrLex)
		r.wantHere(t, "@"+strings.Repeat("1", api.MaxDigits+1), 1, api.ErrNumber)
		// Tokens are looked at ahead of all else.
		r.wantHere(t, ") ((a 1 fun @&", 1, api.ErrLex)
	}
	programs().wantHere(t, head+"((1)) + @007;", 1, api.ErrNumber)
}

func TestWrongFormulas(t *testing.T) { // P7.2
	for _, s := range []string{
		"@", " --@", "@)", "a@)", "(a@", "(@)", "(@", "a @b", "a @1", "1 @a", "a @true", "a+@", "@+a", "a*@*b", "a<b@<c", "a=b@=c", "a<b@>=c", "not@", "-@", "a @not b", "a+@not b", "a=@not b", "-@not a", "a&&@", "a&&@||b", "a=>@", "@=>a", "a=>@=>b", "f@(x)", "f@()", "m@.f(x)", "a@.b", "(f@(x))", "@let x=1 in x", "(@let x=1 in x)", "@if a then b else c", "@assert a in b", "a=>@let", "a@,b", "a@;", "@{a}", "a@}", "@int", "res@(1)", "res @res", "@fun f():int=1;",
	} {
		formulas().wantHere(t, s, 9, api.ErrSyntax)
	}
}

func TestWrongPrograms(t *testing.T) { // P7.1
	for _, s := range []string{
		"@x", "@;", "@1", "import@", "import @fun;", "import @;", "import m@,n;", "import m@", "import m;@;", "import m@.n;", "pub@", "pub @import m;", "pub @pub fun f():int=1;", "fun @pub f():int=1;", "fun f():int=1;@import m;",
		"fun@", "fun @let():int=1;", "fun @1():int=1;", "fun @():int=1;", "fun f@:int=1;", "fun f(@", "fun f(x@)", "fun f(x:@)", "fun f(x:@nat):int=1;", "fun f(@int:int):int=1;", "fun f(@,", "fun f(x:int,@):int=1;", "fun f(x:int @y:int)", "fun f(x:int@;", "fun f(x:int@",
		"fun f(x:int{@})", "fun f(x:int{x@", "fun f(x:int{x@)", "fun f(x:int{x}@{x})", "fun f(x:int{x},@{", "fun f()@=1;", "fun f():@=1;", "fun f():@f=1;", "fun f():int @1;", "fun f():int{1}@1;", "fun f():int{@", "fun f():int=@;", "fun f():int=1@", "fun f():int=1@,", "fun f():int=1 @fun", "fun f():int=1;@;", "fun f():int=1;@x", "fun f():int=1; @)", "fun f()@", "fun f():@", "fun f():int@",
	} {
		programs().wantHere(t, s, 9, api.ErrSyntax)
	}
}

func TestWrongBodies(t *testing.T) { // P7.1
	for _, s := range []string{
		"@res;", "1+@res;", "(@res);", "f(@res);", "let @res=1 in 1;", "let x=@res in x;", "let@", "let @1=1 in 1;", "let x @1 in 1;", "let x=@in 1;", "let x=1@;", "let x=1 in@;", "let x=1 in x @in x;", "let x=a @b in x;",
		"if@;", "if a@;", "if a @else b;", "if a then@;", "if a then b@;", "if a then b else@;", "@then;", "assert@;", "assert a@;", "assert a in@;", "assert @in a;", "1+@let x=1 in x;", "a=>@if a then b else c;", "not @let x=1 in x;", "-@assert a in b;", "a<@if a then b else c;",
		"f(@;", "f(@,);", "f(1@;", "f(1,@);", "f(1 @2);", "f(1)@)", "f()@();", "f(1)@.g();", "m.@;", "m.g@;", "m.g@+1;", "m.g@.h();", "m.@1();", "m.@let();", "1@.g();", "true@();", "(f)@();", "@.g();", "@{1};", "1@{1};", "@int;", "@fun;",
	} {
		programs().wantHere(t, head+s, 9, api.ErrSyntax)
	}
}

func TestWrongClauses(t *testing.T) { // P7.1
	for _, s := range []string{"f@(1)", "m@.f(1)", "(f@(1))", "@let x=1 in x", "@if a then b else c", "@assert a in b", "(@if a then b else c)", "a=>@assert a in b"} {
		for _, ahead := range []string{"fun f(x:int{", "fun f():int{", "fun f(x:int{res},y:bool{"} {
			programs().wantHere(t, ahead+s+"}", 9, api.ErrSyntax)
		}
	}
	// What a clause alone may have, no body behind it has, and the other way round.
	programs().wantHere(t, "fun f(x:int{res}):int{res}=@res;", 9, api.ErrSyntax)
	programs().wantHere(t, "fun f():int=f();fun f(x:int{f@()", 9, api.ErrSyntax)
	programs().wantOK(t, "fun f(x:int{res}):int{(res)}=g(1);fun g(x:int{not res}):int=(f(x));", 9)
}

// nest is a form that nests: what it begins and ends with, how far from its beginning the first thing stands that is nested in it, and whether it is a formula.
type nest struct {
	open, close string
	first       int
	formula     bool
}

func nests() []nest {
	return []nest{
		{"(", ")", 1, true}, {"- ", "", 2, true}, {"not ", "", 4, true}, {"a=>", "", 3, true}, {"a||b&&c=>", "", 9, true},
		{"let x=", " in x", 6, false}, {"let x=1 in ", "", 6, false}, {"if ", " then a else b", 3, false}, {"if a then ", " else b", 3, false}, {"if a then b else ", "", 3, false}, {"assert ", " in a", 7, false}, {"assert a in ", "", 7, false},
		{"f(", ")", 2, false}, {"m.f(", ",a)", 4, false}, {"f(a,", ")", 2, false}, {"1+f(a,b,", ",c)", 4, false},
	}
}

func TestNestingOfEachForm(t *testing.T) { // P7.1, P7.2
	for _, n := range nests() {
		for _, depth := range []int{1, 2, 3, 10, 199, 200} {
			deep := func(times int) string {
				return strings.Repeat(n.open, times) + "1" + strings.Repeat(n.close, times)
			}
			just, over, far := deep(depth-1), deep(depth), deep(depth+150)
			at := (depth-1)*len(n.open) + n.first
			programs().wantOK(t, head+just+";", depth)
			programs().wantFault(t, head+over+";", depth, lex.Fault{E: api.ErrDepth, At: len(head) + at})
			programs().wantFault(t, head+far, depth, lex.Fault{E: api.ErrDepth, At: len(head) + at})
			if !n.formula {
				continue
			}
			formulas().wantOK(t, just, depth)
			formulas().wantFault(t, over, depth, lex.Fault{E: api.ErrDepth, At: at})
			for _, ahead := range []string{"fun f(x:int{x},y:int{", "fun f(x:int{x}):int{"} {
				programs().wantHere(t, ahead+just+"@", depth, api.ErrSyntax)
				programs().wantFault(t, ahead+over, depth, lex.Fault{E: api.ErrDepth, At: len(ahead) + at})
			}
		}
	}
}

func TestWhatNests(t *testing.T) { // P7.1
	// Each text with an @ at its fault of depth 1, then of depth 2, and so on; with one depth more it has a tree.
	for _, s := range []string{
		"1", "a+b*c<d-e", "a*b*c+d%e", "a&&b||c&&d||e", "a=b&&c<>d", "f()", "m.f()+g()", "a-b",
		"-@a", "a- -@b", "-@a*b", "b*-@a*-b", "not @a", "a=>@b", "a=>@b=>@c", "(@a=>@b)=>c", "(@a)+(b)", "a+(@b)", "(@-@a)", "not @-@a", "not @a=>b", "a=>@not @b", "-@(@a)", "not@(@not @(@a))", "not @a<b&&not c",
		"f(@a)", "f(@f(),-@a)", "f(@a,b,f(@c))", "m.f(@if @a then b else c)", "let x=@1 in (@2)", "let x=@(@1) in 2", "let x=@a=>@b in c", "if @a then b else -@c", "if @a then not @b else c", "if @not @a then b else c", "assert @a in (@b)", "assert @(@a) in b", "(@if @a then b else c)+1",
	} {
		pieces := strings.Split(s, "@")
		for i := range len(pieces) - 1 {
			ahead, behind := strings.Join(pieces[:i+1], ""), strings.Join(pieces[i+1:], "")
			programs().wantHere(t, head+ahead+"@"+behind+";", i+1, api.ErrDepth)
		}
		programs().wantOK(t, head+strings.Join(pieces, "")+";", len(pieces))
	}
}

func TestNestingOfClausesAndBodies(t *testing.T) { // P7.1
	// They don't stand in each other, and one behind another has a nesting of its own.
	programs().wantOK(t, "fun f(x:int{x}):int{res}=x;", 1)
	programs().wantOK(t, "fun f(x:int{(x)},y:int{(y)}):int{(res)}=(x);fun f(x:int{-x}):int=-x;", 2)
	programs().wantHere(t, "fun f(x:int{(x)},y:int{(y)}):int{(-@res)}=(x);", 2, api.ErrDepth)
	programs().wantHere(t, "fun f(x:int{(x)},y:int{(y)}):int{(res)}=(x)+f(f(@1));", 2, api.ErrDepth)
}

func TestMostParameters(t *testing.T) { // P7.1
	for n := range api.MaxParams + 1 {
		programs().wantOK(t, "fun f("+times("x:int{x}", ",", n)+"):int=1;", 1)
	}
	eight := "fun f(" + times("x:int", ",", 8)
	for _, behind := range []string{"x:int):int=1;", "y", ")", "):int=1;", "", ",", "1", "fun", "-", "("} {
		programs().wantHere(t, eight+",@"+behind, 1, api.ErrFull)
		programs().wantHere(t, eight+" , --\n@"+behind, 1, api.ErrFull)
	}
	programs().wantHere(t, eight+" @x:int):int=1;", 1, api.ErrSyntax)
	programs().wantHere(t, eight+",@x:int):int=(1);", 1, api.ErrFull)
	programs().wantHere(t, "fun f(x:@nat,"+times("x:int", ",", 9), 1, api.ErrSyntax)
}

func TestMostArguments(t *testing.T) { // P7.1
	for _, call := range []string{"f(", "m.f(", "1+m.f("} {
		for n := range api.MaxParams + 1 {
			programs().wantOK(t, head+call+times("-1", ",", n)+");", 3)
		}
		eight := head + call + times("1", ",", 8)
		for _, behind := range []string{"9);", "9", ")", "", ",", "let", "(", "res", ";"} {
			programs().wantHere(t, eight+",@"+behind, 9, api.ErrFull)
		}
		programs().wantHere(t, eight+" @9);", 9, api.ErrSyntax)
	}
	// Of each call they are counted alone.
	call := "f(" + times("1", ",", 8) + ")"
	programs().wantOK(t, head+"f("+times(call, ",", 8)+");", 3)
	programs().wantHere(t, head+"f("+times(call, ",", 8)+",@1);", 3, api.ErrFull)
	programs().wantHere(t, head+"f(f("+times("1", ",", 8)+",@"+call+"));", 3, api.ErrFull)
	programs().wantHere(t, head+"f(@"+times("1", ",", 9)+");", 1, api.ErrDepth)
}

func TestMostDefinitions(t *testing.T) { // P7.1
	for _, d := range []string{"fun f():int=1;", "pub fun f(x:int):bool{res}=true;"} {
		for _, ahead := range []string{"", "import m;"} {
			most := ahead + strings.Repeat(d, api.MaxDefs)
			programs().wantOK(t, most, 1)
			programs().wantOK(t, most+" -- end", 1)
			for _, behind := range []string{d, "fun", "pub", "pub x", "fun fun"} {
				programs().wantHere(t, most+" @"+behind, 1, api.ErrFull)
			}
			for _, behind := range []string{"import m;", "x", "(", "int", "1", ";"} {
				programs().wantHere(t, most+" @"+behind, 1, api.ErrSyntax)
			}
		}
	}
}

func TestMostImports(t *testing.T) { // P7.1
	most := strings.Repeat("import m;", api.MaxImports)
	programs().wantOK(t, most, 1)
	programs().wantOK(t, most+"fun f():int=1;", 1)
	for _, behind := range []string{"import m;", "import", "import 1"} {
		programs().wantHere(t, most+"\n@"+behind, 1, api.ErrFull)
	}
	for _, behind := range []string{"@x", "pub @import m;", "@m;"} {
		programs().wantHere(t, most+behind, 1, api.ErrSyntax)
	}
}

func TestTwoFaults(t *testing.T) { // P7.1, P7.2
	// At one token: where something would be nested by too much stands what it can't begin with.
	for _, s := range []string{"(@", "(@;", "(@)", "(@res)", "not@", "not@)", "-@", "-@not a", "a=>@", "a=>@+", "a=>@if", "f(@;", "f(@,", "f(@", "let x=@;", "let x=@in", "if @then", "assert @)"} {
		programs().wantHere(t, head+s, 1, api.ErrDepth)
		programs().wantHere(t, head+s, 2, api.ErrSyntax)
	}
	for _, s := range []string{"(@", "(@)", "not @not", "not@", "-@not a", "a=>@", "(@let x=1 in x)"} {
		if !strings.HasPrefix(s, "not @") {
			formulas().wantHere(t, s, 2, api.ErrSyntax)
		}
		formulas().wantHere(t, s, 1, api.ErrDepth)
	}
	programs().wantOK(t, head+"f();", 1)
	// One ahead of another: the first from the left is told.
	programs().wantHere(t, head+"a @b (c);", 1, api.ErrSyntax)
	programs().wantHere(t, head+"(@c) a b;", 1, api.ErrDepth)
	programs().wantHere(t, head+"f(@(a)) b;", 1, api.ErrDepth)
	programs().wantHere(t, head+"f("+times("1", ",", 8)+",@(2)) b;", 2, api.ErrFull)
	programs().wantHere(t, head+"f("+times("1", ",", 7)+",(@2),3) b;", 2, api.ErrDepth)
	programs().wantHere(t, head+"f(1 @2,"+times("1", ",", 8)+");", 2, api.ErrSyntax)
	programs().wantHere(t, "fun f(@:int,"+times("x:int", ",", 9), 1, api.ErrSyntax)
	programs().wantHere(t, strings.Repeat(head+"1;", 64)+"@"+head+"(1", 1, api.ErrFull)
	programs().wantHere(t, strings.Repeat(head+"1;", 63)+head+"(@1);"+head+"1;", 1, api.ErrDepth)
	programs().wantHere(t, strings.Repeat("import m;", 17)[:len("import m;")*16]+"@import m", 1, api.ErrFull)
	formulas().wantHere(t, "a @b (c)", 1, api.ErrSyntax)
	formulas().wantHere(t, "(@c) a b", 1, api.ErrDepth)
}
