package pred_test

import (
	"runtime/debug"
	"slices"
	"strconv"
	"strings"
	"testing"
	"unsafe"

	"touchstone/api"
	"touchstone/bag"
	"touchstone/pred"
	"touchstone/term"
	"touchstone/zed"
)

// number is that of a text, which may be longer than layer 1 reads at once.
func number(s string) zed.Int {
	digits, below := strings.CutPrefix(s, "-")
	var n zed.Int
	for i := range len(digits) {
		n = n.Mul(zed.From(10)).Add(zed.From(int(digits[i] - '0')))
	}
	if below {
		n = n.Neg()
	}
	return n
}

// termOf is a term of a text such as "2*x+-1*y+3".
func termOf(s string) term.Term {
	var out term.Term
	for _, p := range strings.Split(s, "+") {
		if factor, name, ok := strings.Cut(p, "*"); ok {
			out = out.Plus(term.Name(name).Times(number(factor)))
		} else {
			out = out.Plus(term.Num(number(p)))
		}
	}
	return out
}

// made is a predicate of a text as it must tell it, in which names have none of the signs. It is put together without any call of the package.
func made(s string) pred.Pred {
	p, rest := cut(s)
	if rest != "" {
		panic(s)
	}
	return p
}

// cut is the predicate that a text begins with, and what is behind it.
func cut(s string) (pred.Pred, string) {
	switch s[0] {
	case 'T':
		return pred.Pred{Kind: pred.Yes}, s[1:]
	case 'F':
		return pred.Pred{Kind: pred.No}, s[1:]
	case '?':
		end := strings.IndexAny(s, ",)")
		if end < 0 {
			end = len(s)
		}
		return pred.Pred{Kind: pred.Flag, Name: s[1:end]}, s[end:]
	case '!':
		kid, rest := cut(s[1:])
		return pred.Pred{Kind: pred.Not, Kids: []pred.Pred{kid}}, rest
	case '&':
		return cutList(pred.And, s)
	case '|':
		return cutList(pred.Or, s)
	}
	text, rest, _ := strings.Cut(s[1:], ")")
	if t, ok := strings.CutSuffix(text, "<=0"); ok {
		return pred.Pred{Kind: pred.Le, Term: termOf(t)}, rest
	}
	t, ok := strings.CutSuffix(text, "=0")
	if s[0] != '(' || !ok {
		panic(s)
	}
	return pred.Pred{Kind: pred.Eq, Term: termOf(t)}, rest
}

func cutList(kind int, s string) (pred.Pred, string) {
	out, rest := pred.Pred{Kind: kind}, s[2:]
	for rest[0] != ')' {
		var kid pred.Pred
		kid, rest = cut(strings.TrimPrefix(rest, ","))
		out.Kids = append(out.Kids, kid)
	}
	return out, rest[1:]
}

// same tells whether two have the same, whatever their texts are.
func same(a, b pred.Pred) bool {
	return a.Kind == b.Kind && a.Name == b.Name && term.Same(a.Term, b.Term) && slices.EqualFunc(a.Kids, b.Kids, same)
}

// repeated is a list of so many of one.
func repeated(n int, s string) []pred.Pred {
	return slices.Repeat([]pred.Pred{made(s)}, n)
}

// want holds a predicate that a call told against its text.
func want(t *testing.T, what string, got pred.Pred, e api.Errno, text string) {
	t.Helper()
	if e != api.OK || got.String() != text || !same(got, made(text)) {
		t.Errorf("%.300s: got %.300s and error %d, want %.300s", what, got, e, text)
	}
}

// wantError holds an error, and that nothing is told beside it.
func wantError(t *testing.T, what string, got pred.Pred, e, want api.Errno) {
	t.Helper()
	if e != want || !same(got, pred.Pred{}) {
		t.Errorf("%.300s: got %.300s and error %d, want error %d", what, got, e, want)
	}
}

// room are all lists of kids in a predicate, with their spare room.
func room(p pred.Pred) [][]pred.Pred {
	var out [][]pred.Pred
	if cap(p.Kids) > 0 {
		out = append(out, p.Kids[:cap(p.Kids)])
	}
	for _, kid := range p.Kids {
		out = append(out, room(kid)...)
	}
	return out
}

// overlap tells whether two lists have memory in common.
func overlap(a, b []pred.Pred) bool {
	start, other, size := uintptr(unsafe.Pointer(unsafe.SliceData(a))), uintptr(unsafe.Pointer(unsafe.SliceData(b))), unsafe.Sizeof(pred.Pred{})
	return start < other+uintptr(len(b))*size && other < start+uintptr(len(a))*size
}

// within tells whether a text stands in memory of another one.
func within(s, whole string) bool {
	start, all := uintptr(unsafe.Pointer(unsafe.StringData(s))), uintptr(unsafe.Pointer(unsafe.StringData(whole)))
	return s != "" && start < all+uintptr(len(whole)) && all < start+uintptr(len(s))
}

// names are the Names of all predicates in one.
func names(p pred.Pred) []string {
	out := []string{p.Name}
	for _, kid := range p.Kids {
		out = append(out, names(kid)...)
	}
	return out
}

// wantAlone holds that no two lists of an answer share memory, and none of its lists and names share any with an argument.
func wantAlone(t *testing.T, what string, answer pred.Pred, arguments ...pred.Pred) {
	t.Helper()
	lists := room(answer)
	for i, a := range lists {
		for _, b := range lists[:i] {
			if overlap(a, b) {
				t.Errorf("%.100s: two lists of %.100s are one", what, answer)
			}
		}
		for _, p := range arguments {
			for _, b := range room(p) {
				if overlap(a, b) {
					t.Errorf("%.100s: %.100s shares a list with %.100s", what, answer, p)
				}
			}
		}
	}
	for _, s := range names(answer) {
		for _, p := range arguments {
			if slices.ContainsFunc(names(p), func(other string) bool { return within(s, other) }) {
				t.Errorf("%.100s: %.100s shares the name %q with %.100s", what, answer, s, p)
			}
		}
	}
}

// spoilt are those that aren't right by themselves, each by one thing.
func spoilt() []pred.Pred {
	x, yes := term.Name("x"), pred.Pred{Kind: pred.Yes}
	out := []pred.Pred{{}, {Kind: -1}, {Kind: 9}, {Kind: pred.Yes + 256}, {Kind: pred.Flag}, {Kind: pred.Not}, {Kind: pred.Not, Kids: []pred.Pred{yes, yes}}, {Kind: pred.Not, Kids: make([]pred.Pred, 1)}}
	for kind := pred.Yes; kind <= pred.Or; kind++ {
		p := pred.Pred{Kind: kind}
		switch kind {
		case pred.Flag:
			p.Name = "p"
		case pred.Not:
			p.Kids = []pred.Pred{yes}
		}
		withTerm, withName, withKids := p, p, p
		withTerm.Term, withName.Name, withKids.Kids = x, "p", append(slices.Clone(p.Kids), pred.Pred{})
		if kind != pred.Le && kind != pred.Eq {
			withOne := p
			withOne.Term = term.Num(zed.From(1))
			out = append(out, withTerm, withOne)
		}
		if kind != pred.Flag {
			out = append(out, withName)
		}
		out = append(out, withKids)
		if kind != pred.And && kind != pred.Or {
			withKids.Kids = append(slices.Clone(p.Kids), yes)
			out = append(out, withKids)
		}
	}
	return out
}

// wrong are those that are spoilt, and others with these inside.
func wrong() []pred.Pred {
	out := spoilt()
	for _, p := range spoilt() {
		yes, flag := made("T"), made("?p")
		out = append(out,
			pred.Pred{Kind: pred.Not, Kids: []pred.Pred{p}},
			pred.Pred{Kind: pred.And, Kids: []pred.Pred{p}},
			pred.Pred{Kind: pred.Or, Kids: []pred.Pred{flag, p, yes}},
			pred.Pred{Kind: pred.Not, Kids: []pred.Pred{{Kind: pred.And, Kids: []pred.Pred{yes, {Kind: pred.Or, Kids: []pred.Pred{p}}}}}})
	}
	return append(out, great()...)
}

// great are those with more than MaxAtoms in them, at the edge and far from it.
func great() []pred.Pred {
	return []pred.Pred{
		{Kind: pred.And, Kids: repeated(api.MaxAtoms, "T")},
		{Kind: pred.Or, Kids: repeated(api.MaxAtoms, "?p")},
		{Kind: pred.Not, Kids: []pred.Pred{{Kind: pred.And, Kids: repeated(api.MaxAtoms-1, "(1*x+0=0)")}}},
		{Kind: pred.And, Kids: repeated((api.MaxAtoms+1)/2, "!?p")},
		deep(pred.Not, api.MaxAtoms, made("?p")),
		deep(pred.And, 50000, made("?p")),
		shared(60),
		endless(pred.Not), endless(pred.And), endless(pred.Or),
	}
}

// deep is so many of a kind in each other, and one in the middle.
func deep(kind, n int, p pred.Pred) pred.Pred {
	for range n {
		p = pred.Pred{Kind: kind, Kids: []pred.Pred{p}}
	}
	return p
}

// shared is of little memory, but each kid stands in two places.
func shared(n int) pred.Pred {
	p := made("?p")
	for range n {
		p = pred.Pred{Kind: pred.And, Kids: []pred.Pred{p, p}}
	}
	return p
}

// endless has itself inside, in the last place.
func endless(kind int) pred.Pred {
	kids := repeated(2, "?p")
	if kind == pred.Not {
		kids = kids[:1]
	}
	p := pred.Pred{Kind: kind, Kids: kids}
	kids[len(kids)-1] = p
	return p
}

func TestRight(t *testing.T) { // P14.1
	for _, s := range []string{
		"T", "F", "(0<=0)", "(1*x+0<=0)", "(-7=0)", "(2*x+-1*y+3=0)", "?p", "?res", "?x y", "!T", "!?p", "!!?p", "&()", "|()", "&(T)", "|(F)", "!&()",
		"&(T,F,(1*x+0<=0),(0=0),?p,!?p,&(),|(&(?p,?p)))", "|(!|(!T,!F),!(1*x+0=0))",
	} {
		if p := made(s); !p.Right() {
			t.Errorf("%s isn't right", s)
		}
	}
	for i, p := range wrong() {
		if p.Right() {
			t.Errorf("%d: %.200s is right", i, p)
		}
	}
	empty := []pred.Pred{}
	zero := term.Name("x").Minus(term.Name("x"))
	for _, p := range []pred.Pred{{Kind: pred.Yes, Kids: empty}, {Kind: pred.Le, Kids: empty}, {Kind: pred.Flag, Name: "p", Kids: empty}, {Kind: pred.And, Kids: empty}, {Kind: pred.Yes, Term: zero}, {Kind: pred.Or, Term: zero}, {Kind: pred.Flag, Name: "\x00"}} {
		if !p.Right() {
			t.Errorf("%s isn't right", p)
		}
	}
}

func TestRightAtTheLimit(t *testing.T) { // P14.1
	n := api.MaxAtoms
	for i, p := range []pred.Pred{
		{Kind: pred.And, Kids: repeated(n-1, "T")},
		{Kind: pred.Not, Kids: []pred.Pred{{Kind: pred.Or, Kids: repeated(n-2, "(1*x+0=0)")}}},
		{Kind: pred.And, Kids: append(repeated(n/2-1, "!?p"), made("T"))},
		deep(pred.Not, n-1, made("?p")),
		deep(pred.And, n-1, made("|()")),
		{Kind: pred.And, Kids: repeated((n-1)/3, "&(T,F)")},
		shared(11),
	} {
		if !p.Right() {
			t.Error(i, "isn't right")
		}
	}
	if shared(12).Right() {
		t.Error("8191 predicates are right")
	}
}

func TestText(t *testing.T) { // P14.1
	x := term.Name("x")
	twice := x.Times(zed.From(2)).Minus(term.Name("y")).Plus(term.Num(zed.From(3)))
	yes, no, flag := pred.Pred{Kind: 1}, pred.Pred{Kind: 2}, pred.Pred{Kind: 5, Name: "p_9"}
	for s, p := range map[string]pred.Pred{
		"T": yes, "F": no, "?p_9": flag, "?a,)": {Kind: 5, Name: "a,)"},
		"(0<=0)": {Kind: 3}, "(0=0)": {Kind: 4}, "(1*x+0<=0)": {Kind: 3, Term: x}, "(2*x+-1*y+3=0)": {Kind: 4, Term: twice}, "(2*x+-1*y+3<=0)": {Kind: 3, Term: twice}, "(-5=0)": {Kind: 4, Term: term.Num(zed.From(-5))},
		"!T": {Kind: 6, Kids: []pred.Pred{yes}}, "!!?p_9": {Kind: 6, Kids: []pred.Pred{{Kind: 6, Kids: []pred.Pred{flag}}}},
		"&()": {Kind: 7}, "|()": {Kind: 8}, "&(T)": {Kind: 7, Kids: []pred.Pred{yes}}, "|(F,T)": {Kind: 8, Kids: []pred.Pred{no, yes}}, "&(T,?p_9,F)": {Kind: 7, Kids: []pred.Pred{yes, flag, no}},
		"|(&(),!|(T,&(F)),(0<=0))": {Kind: 8, Kids: []pred.Pred{{Kind: 7}, {Kind: 6, Kids: []pred.Pred{{Kind: 8, Kids: []pred.Pred{yes, {Kind: 7, Kids: []pred.Pred{no}}}}}}, {Kind: 3}}},
	} {
		if p.String() != s {
			t.Errorf("%s: got %s", s, p)
		}
		if s != "?a,)" && !same(made(s), p) {
			t.Errorf("%s: the test's own reading", s)
		}
	}
}

func TestTextOfWrongOnes(t *testing.T) { // P14.1: what a kind has a text of stands in it, and nothing else
	kids := repeated(2, "T")
	for s, p := range map[string]pred.Pred{
		"T": {Kind: pred.Yes, Name: "p", Term: term.Name("x"), Kids: kids}, "F": {Kind: pred.No, Kids: kids}, "(0<=0)": {Kind: pred.Le, Kids: kids}, "(1*x+0=0)": {Kind: pred.Eq, Name: "p", Term: term.Name("x"), Kids: kids},
		"?": {Kind: pred.Flag}, "?p": {Kind: pred.Flag, Name: "p", Term: term.Name("x"), Kids: kids}, "&(T,T)": {Kind: pred.And, Name: "p", Kids: kids}, "|(T,T)": {Kind: pred.Or, Term: term.Name("x"), Kids: kids},
	} {
		if p.String() != s {
			t.Errorf("%s: got %s", s, p)
		}
	}
	// However many there are.
	many := pred.All(repeated(3000, "(1*x+0=0)")...)
	if got, want := pred.Any(many, many).String(), "|("+many.String()+","+many.String()+")"; got != want || len(got) != 2*(3000*10+2)+4 {
		t.Error(len(got))
	}
}

func TestAllAnyDeny(t *testing.T) { // P14.1
	p, q, r := made("&(?p,|(T))"), made("(2*x+1<=0)"), made("!?q")
	for text, got := range map[string]pred.Pred{
		"&()": pred.All(), "|()": pred.Any(),
		"&(&(?p,|(T)))": pred.All(p), "|(&(?p,|(T)))": pred.Any(p), "!&(?p,|(T))": pred.Deny(p),
		"&((2*x+1<=0),!?q,(2*x+1<=0))": pred.All(q, r, q), "|(!?q,&(?p,|(T)))": pred.Any(r, p), "!!?q": pred.Deny(r),
		"!&(|(!T),F)": pred.Deny(pred.All(pred.Any(pred.Deny(made("T"))), made("F"))),
	} {
		want(t, text, got, api.OK, text)
	}
	l := repeated(api.MaxAtoms, "F")
	if got := pred.All(l...); got.Kind != pred.And || !slices.EqualFunc(got.Kids, l, same) {
		t.Error("too many:", len(got.Kids))
	}
	for i, p := range spoilt() {
		// What isn't right is taken as it is.
		for _, got := range []pred.Pred{pred.All(p), pred.Any(p), pred.Deny(p)} {
			if got.Right() || len(got.Kids) != 1 || !same(got.Kids[0], p) {
				t.Error(i, got)
			}
		}
	}
}

func TestMemoryOfMadeOnes(t *testing.T) { // P14.1
	long := "alphabeta"
	p := pred.Pred{Kind: pred.And, Kids: append(make([]pred.Pred, 0, 9), pred.Pred{Kind: pred.Flag, Name: long[:5]}, pred.Deny(pred.Pred{Kind: pred.Flag, Name: long[5:]}))}
	l := append(make([]pred.Pred, 0, 9), p, p)
	before := pred.All(l...).String()
	for what, got := range map[string]pred.Pred{"All": pred.All(l...), "Any": pred.Any(l...), "All twice": pred.All(p, p, p), "Deny": pred.Deny(p)} {
		wantAlone(t, what, got, p, pred.Pred{Kind: pred.And, Kids: l})
		text := got.String()
		got.Kids[0].Kids[1].Kids[0] = made("F")
		got.Kids = append(got.Kids, made("T"))
		if pred.All(l...).String() != before || p.Kids[:3][2].Kind != 0 || l[:3][2].Kind != 0 {
			t.Error(what, "changed", l)
		}
		if len(got.Kids) > 2 && got.Kids[1].String() != p.String() {
			t.Error(what, text, "became", got)
		}
	}
	kept := pred.All(l...)
	l[0], p.Kids[0] = made("F"), made("F")
	if kept.String() != before {
		t.Error("changed with its argument:", kept)
	}
}

func TestMemoryOfNames(t *testing.T) { // P14.1
	long := "alphabeta"
	p := pred.Pred{Kind: pred.Or, Kids: []pred.Pred{{Kind: pred.Flag, Name: long[:5]}, {Kind: pred.Le, Term: term.Name(long[5:])}, {Kind: pred.Flag, Name: "p"}}}
	numbers, flags := p.Names()
	if !slices.Equal(numbers, []string{"beta"}) || !slices.Equal(flags, []string{"alpha", "p"}) {
		t.Fatal(numbers, flags)
	}
	again, _ := p.Names()
	for _, s := range append(numbers, flags...) {
		if within(s, long) || within(s, again[0]) {
			t.Errorf("%q shares memory", s)
		}
	}
	flags[0], flags = "spoilt", append(flags[:1], "spoilt")
	if _, other := p.Names(); p.Kids[0].Name != "alpha" || !slices.Equal(other, []string{"alpha", "p"}) {
		t.Error("changed:", p, other)
	}
}

func TestNames(t *testing.T) { // P14.1
	for s, want := range map[string][2]string{
		"T": {}, "F": {}, "(0<=0)": {}, "(7=0)": {}, "&()": {}, "!|()": {},
		"(1*x+0<=0)": {"x"}, "(1*y+-2*x+0=0)": {"x y"}, "?p": {"", "p"}, "!?p": {"", "p"},
		"&(?q,?p,?q)":     {"", "p q"},
		"?x":              {"", "x"},
		"|((1*x+0=0),?x)": {"x", "x"},
		"&(|(?res,(1*res+1*a+0=0)),!(1*b+1*a+0<=0),!!?B)": {"a b res", "B res"},
		"&((1*x2+0=0),(1*x10+0=0),(1*X+1*x+0=0))":         {"X x x10 x2"},
		"!&(?p,|(?r,!&(?o,(1*z+0=0))),(1*y+0<=0))":        {"y z", "o p r"},
	} {
		numbers, flags := made(s).Names()
		if strings.Join(numbers, " ") != want[0] || strings.Join(flags, " ") != want[1] {
			t.Errorf("%s: %q and %q", s, numbers, flags)
		}
	}
	// Names that a term has no more aren't told.
	u := termOf("1*x+1*y+0").Minus(term.Name("x"))
	if numbers, flags := (pred.Pred{Kind: pred.Le, Term: u}).Names(); !slices.Equal(numbers, []string{"y"}) || len(flags) != 0 {
		t.Error(numbers, flags)
	}
	// Nor does it matter how many there are.
	var l []pred.Pred
	var wantNumbers, wantFlags []string
	for i := range 2 * api.MaxAtoms {
		s := strconv.Itoa(200000 - i)
		wantNumbers, wantFlags = append(wantNumbers, "n"+s), append(wantFlags, "p"+s)
		l = append(l, made("&(?p"+s+",(1*n"+s+"+0=0))"))
	}
	slices.Reverse(wantNumbers)
	slices.Reverse(wantFlags)
	if numbers, flags := pred.Any(l...).Names(); !slices.Equal(numbers, wantNumbers) || !slices.Equal(flags, wantFlags) {
		t.Error(len(numbers), len(flags))
	}
	if numbers, flags := made("?\xff").Names(); len(numbers) != 0 || !slices.Equal(flags, []string{"\xff"}) {
		t.Error(numbers, flags)
	}
}

func TestDeepOnes(t *testing.T) { // P1, P14.1: what may be told of those that aren't right, is
	defer debug.SetMaxStack(debug.SetMaxStack(1 << 20))
	const n = 50000
	for kind, text := range map[int][2]string{pred.Not: {"!", ""}, pred.And: {"&(", ")"}, pred.Or: {"|(", ")"}} {
		p := deep(kind, n, made("?p"))
		whole := strings.Repeat(text[0], n) + "?p" + strings.Repeat(text[1], n)
		if p.String() != whole || p.Right() {
			t.Error(kind, "isn't told")
		}
		if pred.All(p, p).String() != "&("+whole+","+whole+")" || pred.Any(p).String() != "|("+whole+")" || pred.Deny(p).String() != "!"+whole {
			t.Error(kind, "isn't put in")
		}
		if numbers, flags := p.Names(); len(numbers) != 0 || !slices.Equal(flags, []string{"p"}) {
			t.Error(kind, numbers, flags)
		}
	}
}

func TestEndlessOnes(t *testing.T) { // P1
	twice := make([]pred.Pred, 2)
	twice[0], twice[1] = made("?p"), pred.Pred{Kind: pred.Or, Kids: twice}
	far := make([]pred.Pred, 1)
	far[0] = deep(pred.Not, 77, pred.Pred{Kind: pred.And, Kids: far})
	for i, p := range []pred.Pred{endless(pred.Not), endless(pred.And), endless(pred.Or), {Kind: pred.And, Kids: twice}, {Kind: pred.Le, Kids: twice}, deep(pred.Not, 5, pred.Pred{Kind: pred.Not, Kids: far})} {
		if p.Right() || pred.All(p).Right() || pred.Any(made("T"), p).Right() || pred.Deny(p).Right() {
			t.Error(i, "is right")
		}
		p.Names()
		if len(p.String()) > 10000 {
			t.Error(i, len(p.String()))
		}
		got, e := p.Inward()
		wantError(t, "Inward", got, e, api.ErrForm)
		got, e = p.Put("x", term.Name("y"))
		wantError(t, "Put", got, e, api.ErrForm)
		got, e = p.Set("p", made("T"))
		wantError(t, "Set", got, e, api.ErrForm)
		got, e = made("?p").Set("p", p)
		wantError(t, "Set", got, e, api.ErrForm)
		if yes, e := p.Eval(bag.NewMap[string, zed.Int](), bag.NewMap[string, bool]()); yes || e != api.ErrForm {
			t.Error(i, yes, e)
		}
	}
}
