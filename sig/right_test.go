package sig_test

import (
	"fmt"
	"math/rand/v2"
	"runtime/debug"
	"slices"
	"strings"
	"testing"

	"touchstone/api"
	"touchstone/ast"
	"touchstone/lex"
	"touchstone/show"
	"touchstone/sig"
	"touchstone/zed"
)

// noNames are texts that are no plain words.
func noNames() []string {
	return append(lex.Keys(), "", " ", "_", "_x", "9", "9x", "x y", " x", "x ", "x\n", "x.y", "x-", "x--", "é", "xé", "\xff", "x\x00", "x:int", "x)", strings.Repeat("x", api.MaxName+1))
}

// wantSig holds whether a signature is right, and what it shows.
func wantSig(t *testing.T, what string, s sig.Sig, text string) {
	t.Helper()
	e := api.OK
	if text == "" {
		e = api.ErrForm
	}
	if got := s.Right(); got != (e == api.OK) {
		t.Errorf("%s: Right tells %t", what, got)
	}
	if got, err := s.Show(); got != text || err != e {
		t.Errorf("%s: Show tells %q and error %d, want %q", what, got, err, text)
	}
	if f := (sig.Face{Module: "m", Sigs: []sig.Sig{s}}); f.Right() != (e == api.OK) {
		t.Errorf("%s: of a face of it Right tells %t", what, f.Right())
	}
}

func TestNames(t *testing.T) { // P10.1, P10.3
	x := sig.Slot{Name: "x", Base: 1}
	for _, s := range noNames() {
		wantSig(t, s, sig.Sig{Name: s, Base: 1}, "")
		wantSig(t, s, sig.Sig{Name: "f", Params: []sig.Slot{{Name: s, Base: 1}}, Base: 1}, "")
		wantSig(t, s, sig.Sig{Name: "f", Params: []sig.Slot{x, {Name: s, Base: 1}, {Name: "y", Base: 1}}, Base: 1}, "")
		wantSig(t, s, sig.Sig{Name: "f", Params: []sig.Slot{x}, Base: 1, Clause: clause(name(s))}, "")
		if (sig.Face{Module: s}).Right() || (sig.Face{Module: s, Sigs: []sig.Sig{{Name: "f", Base: 1}}}).Right() {
			t.Errorf("a face of %q", s)
		}
	}
	for _, s := range []string{"x", "Z", "x_", "a9_B", "lets", "Res", "INT", strings.Repeat("x", api.MaxName)} {
		wantSig(t, s, sig.Sig{Name: s, Base: 2, Params: []sig.Slot{{Name: s, Base: 1, Clause: clause(name(s))}}, Clause: clause(name(s))}, s+"("+s+": int {"+s+"}): bool {"+s+"}")
		if !(sig.Face{Module: s, Sigs: []sig.Sig{{Name: s, Base: 1}}}).Right() {
			t.Errorf("no face of %q", s)
		}
	}
}

func TestBases(t *testing.T) { // P10.1, P10.3
	for _, base := range []int{-1 << 63, -1, 0, 1, 2, 3, 257, 1<<63 - 1} {
		word := map[int]string{1: "int", 2: "bool"}[base]
		around := func(head, tail string) string {
			if word == "" {
				return ""
			}
			return head + word + tail
		}
		wantSig(t, "a result's", sig.Sig{Name: "f", Base: base}, around("f(): ", ""))
		wantSig(t, "a parameter's", sig.Sig{Name: "f", Params: []sig.Slot{{Name: "x", Base: base}, {Name: "y", Base: 2}}, Base: 1}, around("f(x: ", ", y: bool): int"))
		wantSig(t, "a last parameter's", sig.Sig{Name: "f", Params: []sig.Slot{{Name: "x", Base: 1}, {Name: "y", Base: base, Clause: clause(name("x"))}}, Base: 1}, around("f(x: int, y: ", " {x}): int"))
	}
}

// slots are so many, each with a name of its own.
func slots(n int) []sig.Slot {
	var out []sig.Slot
	for i := range n {
		out = append(out, sig.Slot{Name: fmt.Sprintf("x%d", i), Base: 1 + i%2})
	}
	return out
}

func TestCounts(t *testing.T) { // P10.1, P10.3
	for n := range api.MaxParams + 4 {
		s := sig.Sig{Name: "f", Params: slots(n), Base: 1}
		if n > api.MaxParams {
			wantSig(t, fmt.Sprint(n, " parameters"), s, "")
			continue
		}
		var want []string
		for i, x := range s.Params {
			want = append(want, x.Name+": "+[]string{"int", "bool"}[i%2])
		}
		wantSig(t, fmt.Sprint(n, " parameters"), s, "f("+strings.Join(want, ", ")+"): int")
		for i := range n {
			for j := range i {
				twice := s
				twice.Params = slots(n)
				twice.Params[j].Name = twice.Params[i].Name
				wantSig(t, fmt.Sprint(i, " and ", j, " of one name"), twice, "")
			}
		}
	}
	wantSig(t, "far too many parameters", sig.Sig{Name: "f", Params: slots(100000), Base: 1}, "")
}

func TestNamesInClauses(t *testing.T) { // P10.1, P10.3
	for n := range api.MaxParams + 1 {
		for i := range n + 1 {
			for j := range n + 2 {
				// The name of the j-th parameter (of none) stands in the clause of the i-th (of the result).
				s := sig.Sig{Name: "f", Params: slots(n), Base: 1}
				inside := clause(op(ast.And, num(1), op(ast.Not, name(fmt.Sprintf("x%d", j)))))
				if i < n {
					s.Params[i].Clause = inside
				} else {
					s.Clause = inside
				}
				want := j < n && j <= i
				if got := s.Right(); got != want {
					t.Errorf("%d parameters, x%d in the clause of %d: got %t", n, j, i, got)
				}
			}
		}
	}
	for _, inside := range []ast.Expr{name("f"), name("z"), op(ast.Add, name("x"), name("f")), op(ast.Or, op(ast.Neg, name("X")), name("x"))} {
		wantSig(t, "a strange name", sig.Sig{Name: "f", Params: []sig.Slot{{Name: "x", Base: 1, Clause: clause(inside)}}, Base: 1}, "")
		wantSig(t, "a strange name", sig.Sig{Name: "f", Params: []sig.Slot{{Name: "x", Base: 1}}, Base: 1, Clause: clause(inside)}, "")
	}
}

func TestResultsInClauses(t *testing.T) { // P10.1, P10.3
	x := name("x")
	for inside, text := range map[*ast.Expr]string{
		{Op: ast.Res}:                          "res",
		{Op: ast.Gt, Kids: []ast.Expr{res, x}}: "res > x",
		{Op: ast.Imp, Kids: []ast.Expr{x, op(ast.Not, op(ast.Eq, op(ast.Neg, res), op(ast.Mul, x, num(2))))}}:          "x => not -res = x * 2",
		{Op: ast.And, Kids: []ast.Expr{op(ast.Or, op(ast.Lt, x, num(1)), x), op(ast.Le, num(0), op(ast.Sub, x, res))}}: "(x < 1 || x) && 0 <= x - res",
	} {
		slot := sig.Slot{Name: "x", Base: 1}
		wantSig(t, "in the result's "+text, sig.Sig{Name: "f", Params: []sig.Slot{slot}, Base: 2, Clause: clause(*inside)}, "f(x: int): bool {"+text+"}")
		slot.Clause = clause(*inside)
		wantSig(t, "in a parameter's "+text, sig.Sig{Name: "f", Params: []sig.Slot{slot}, Base: 2}, "")
	}
}

func TestWrongClauses(t *testing.T) { // P10.1, P10.3
	x := name("x")
	nines, _ := zed.Parse(strings.Repeat("9", api.MaxDigits))
	for _, inside := range [][]ast.Expr{
		{{}}, {x, x}, {x, x, x}, {x, {}}, {op(25, x)}, {op(ast.Add, x)}, {op(ast.Not, x, x)}, {op(ast.Not)},
		{op(ast.If, x, x, x)}, {op(ast.Not, op(ast.Assert, x, x))}, {{Op: ast.Let, Name: "x", Kids: []ast.Expr{x, x}}},
		{{Op: ast.Call, Name: "f"}}, {{Op: ast.Call, Module: "m", Name: "f", Kids: clause(x)}},
		{{Op: ast.Var, Name: "x", Module: "m"}}, {{Op: ast.Truth, Name: "x"}}, {{Op: ast.Var, Name: "x", Yes: true}},
		{{Op: ast.Lit, Num: zed.From(-1)}}, {{Op: ast.Lit, Num: nines.Add(zed.From(1))}},
	} {
		first, last := sig.Slot{Name: "x", Base: 1}, sig.Slot{Name: "y", Base: 1}
		wantSig(t, fmt.Sprint("a result's ", inside), sig.Sig{Name: "f", Params: []sig.Slot{first, last}, Base: 1, Clause: inside}, "")
		last.Clause = inside
		wantSig(t, fmt.Sprint("a parameter's ", inside), sig.Sig{Name: "f", Params: []sig.Slot{first, last}, Base: 1, Clause: clause(res)}, "")
	}
	wantSig(t, "nil and empty lists are one", sig.Sig{Name: "f", Params: []sig.Slot{{Name: "x", Base: 1, Clause: []ast.Expr{}}}, Base: 1, Clause: []ast.Expr{}}, "f(x: int): int")
	wantSig(t, "the greatest number", sig.Sig{Name: "f", Params: []sig.Slot{}, Base: 1, Clause: clause(ast.Expr{Op: ast.Lit, Num: nines})}, "f(): int {"+nines.String()+"}")
}

func TestRightFaces(t *testing.T) { // P10.1
	of := func(l ...string) sig.Face {
		f := sig.Face{Module: "m"}
		for _, s := range l {
			f.Sigs = append(f.Sigs, sig.Sig{Name: s, Base: 1})
		}
		return f
	}
	for _, l := range [][]string{{}, {"f"}, {"m"}, {"f", "g"}, {"B", "a"}, {"a", "aa", "b"}, {"a", "a9", "aB", "a_", "ab"}} {
		if !of(l...).Right() {
			t.Error(l, "isn't right")
		}
		for i := range l {
			twice := of(slices.Insert(slices.Clone(l), i, l[i])...)
			if twice.Right() {
				t.Error(names(twice.Sigs), "is right")
			}
			if f := of(slices.Concat(l[i:], l[:i])...); f.Right() != (i == 0) {
				t.Error(names(f.Sigs), f.Right())
			}
			wrong := of(l...)
			wrong.Sigs[i].Base = 3
			if wrong.Right() {
				t.Error(l, "is right, with a wrong signature", i)
			}
		}
	}
	if of("f", "g", "f").Right() || of("b", "a").Right() || of("a", "c", "b").Right() {
		t.Error("names that don't rise")
	}
	for n := range api.MaxDefs + 3 {
		f := of()
		for i := range n {
			f.Sigs = append(f.Sigs, sig.Sig{Name: fmt.Sprintf("f%03d", i), Base: 1})
		}
		if f.Right() != (n <= api.MaxDefs) {
			t.Error(n, f.Right())
		}
	}
}

// rightModel is a plainer way to what the chapter says of right signatures.
func rightModel(s sig.Sig) bool {
	known := map[string]int{"res": 1}
	right := lex.Plain(s.Name) && len(s.Params) <= 8
	typed := func(base int, clause []ast.Expr, mayRes bool) {
		right = right && (base == api.Int || base == api.Bool) && len(clause) <= 1
		for _, e := range clause {
			_, err := show.Formula(e)
			right = right && err == api.OK && onlyKnown(e, known, mayRes)
		}
	}
	for _, x := range s.Params {
		right = right && lex.Plain(x.Name) && known[x.Name] == 0
		known[x.Name] = 1
		typed(x.Base, x.Clause, false)
	}
	typed(s.Base, s.Clause, true)
	return right
}

func onlyKnown(e ast.Expr, known map[string]int, mayRes bool) bool {
	ok := (e.Op != ast.Var || known[e.Name] == 1) && (e.Op != ast.Res || mayRes)
	for _, kid := range e.Kids {
		ok = ok && onlyKnown(kid, known, mayRes)
	}
	return ok
}

// drawer draws signatures by chance.
type drawer struct{ r *rand.Rand }

func newDrawer(seed uint64) *drawer { return &drawer{r: rand.New(rand.NewPCG(seed, 10))} }

func (d *drawer) one(l ...string) string { return l[d.r.IntN(len(l))] }

// formula draws one of these names.
func (d *drawer) formula(room int, mayRes bool, names ...string) ast.Expr {
	o := 1 + d.r.IntN(ast.Imp)
	for room == 0 && o > ast.Res || o == ast.Res && !mayRes || o == ast.Var && len(names) == 0 {
		o = 1 + d.r.IntN(ast.Imp)
	}
	e := ast.Expr{Op: o, At: d.r.IntN(99) - 9}
	kids := 2
	switch o {
	case ast.Lit:
		e.Num, _ = zed.Parse(d.one("0", "7", "10", strings.Repeat("9", api.MaxDigits)))
		kids = 0
	case ast.Truth:
		e.Yes = d.r.IntN(2) == 0
		kids = 0
	case ast.Var:
		e.Name = d.one(names...)
		kids = 0
	case ast.Res:
		kids = 0
	case ast.Neg, ast.Not:
		kids = 1
	}
	for range kids {
		e.Kids = append(e.Kids, d.formula(room-1, mayRes, names...))
	}
	return e
}

// sig draws a right signature.
func (d *drawer) sig() sig.Sig {
	s := sig.Sig{Name: d.one("f", "g_9", "Int"), Base: 1 + d.r.IntN(2)}
	var known []string
	for range d.r.IntN(api.MaxParams + 1) {
		x := sig.Slot{Name: fmt.Sprintf("%s%d", d.one("x", "Y_", strings.Repeat("w", api.MaxName-1)), len(known)), Base: 1 + d.r.IntN(2)}
		known = append(known, x.Name)
		if d.r.IntN(2) == 0 {
			x.Clause = clause(d.formula(d.r.IntN(4), false, known...))
		}
		s.Params = append(s.Params, x)
	}
	if d.r.IntN(3) > 0 {
		s.Clause = clause(d.formula(d.r.IntN(5), true, known...))
	}
	return s
}

// spoil changes something of a signature, which may be right after that.
func (d *drawer) spoil(s *sig.Sig) {
	var all []*ast.Expr
	var visit func(l []ast.Expr)
	visit = func(l []ast.Expr) {
		for i := range l {
			all = append(all, &l[i])
			visit(l[i].Kids)
		}
	}
	visit(s.Clause)
	for _, x := range s.Params {
		visit(x.Clause)
	}
	switch i := d.r.IntN(8); {
	case i == 0:
		s.Name = d.one("", "int", "f", "9", "h")
	case i == 1:
		s.Base = d.r.IntN(4)
	case i == 2:
		s.Clause = append(s.Clause, name(d.one("x0", "y", "Y_1")))
	case i == 3 && len(s.Params) > 1:
		at := d.r.IntN(len(s.Params))
		s.Params[at], s.Params[0] = s.Params[0], s.Params[at]
	case i == 4 && len(s.Params) > 0:
		at := d.r.IntN(len(s.Params))
		s.Params = slices.Insert(s.Params, at, sig.Slot{Name: d.one("x0", "x1", "n", "res", s.Params[0].Name), Base: 1})
	case i == 5 && len(s.Params) > 0:
		s.Params[d.r.IntN(len(s.Params))].Base = d.r.IntN(4)
	case len(all) > 0:
		e := all[d.r.IntN(len(all))]
		switch d.r.IntN(5) {
		case 0:
			e.Op = d.r.IntN(26)
		case 1:
			e.Name = d.one("x0", "x1", "n", "")
		case 2:
			*e = name(d.one("x0", "x1", "Y_0", "n"))
		case 3:
			*e = res
		case 4:
			e.Kids = append(e.Kids, num(1))
		}
	}
}

func TestDrawnSignatures(t *testing.T) { // P10.1, P10.3
	d := newDrawer(1)
	wrong := 0
	for range 20000 {
		s := d.sig()
		if !s.Right() || !rightModel(s) {
			t.Fatal(whole(s), "isn't right")
		}
		d.spoil(&s)
		if got, want := s.Right(), rightModel(s); got != want {
			t.Fatal(whole(s), got)
		}
		if text, e := s.Show(); (e == api.OK) != s.Right() || (text == "") != (e == api.ErrForm) {
			t.Fatal(whole(s), text, e)
		}
		if !s.Right() {
			wrong++
		}
	}
	if wrong < 5000 || wrong > 19000 {
		t.Error(wrong, "were wrong")
	}
}

// deep is so many expressions of an Op in each other.
func deep(o, n int, last ast.Expr) ast.Expr {
	e := last
	for range n {
		if o == ast.Not || o == ast.Neg {
			e = op(o, e)
		} else {
			e = op(o, num(1), e)
		}
	}
	return e
}

func TestDeepClauses(t *testing.T) { // P1, P10.1 to P10.4
	defer debug.SetMaxStack(debug.SetMaxStack(1 << 20))
	const n = 50000
	for o, text := range map[int]string{
		ast.Not: strings.Repeat("not ", n) + "x",
		ast.Imp: strings.Repeat("1 => ", n) + "x",
		ast.Sub: strings.Repeat("1 - (", n-1) + "1 - x" + strings.Repeat(")", n-1),
	} {
		d := ast.Def{Pub: true, Name: "f", Params: []ast.Param{{Name: "x", Base: 1, Clause: clause(deep(o, n, name("x")))}}, Base: 1, Clause: clause(deep(o, n, name("x")))}
		want := "f(x: int {" + text + "}): int {" + text + "}"
		wantSig(t, "deep", sig.Of(d), want)
		f, e := sig.FaceOf("m", ast.Program{Defs: []ast.Def{d}})
		if e != api.OK {
			t.Fatal(e)
		}
		s, ok := sig.Find([]sig.Face{f}, "m", "f")
		if got, _ := s.Show(); !ok || got != want {
			t.Error("Find")
		}
		if s, e := sig.Read(want); e != api.ErrForm || s.Name != "" {
			t.Error("a text that is nested too deep was read", e)
		}
		d.Clause = clause(deep(o, n, res))
		d.Params[0].Clause = clause(deep(o, n, ast.Expr{}))
		wantSig(t, "deep and wrong", sig.Of(d), "")
		d.Params[0].Clause = clause(deep(o, n, res))
		wantSig(t, "deep with a result", sig.Of(d), "")
		d.Params[0].Clause = clause(deep(o, n, name("y")))
		wantSig(t, "deep with another's name", sig.Of(d), "")
	}
}

// endless are lists of expressions with themselves inside.
func endless() [][]ast.Expr {
	var out [][]ast.Expr
	for ahead := range 4 {
		for round := 1; round < 6; round++ {
			for at := range 2 {
				ring := make([][]ast.Expr, round)
				for i := range ring {
					ring[i] = []ast.Expr{name("x"), op(ast.Neg, name("x"))}
				}
				for i := range ring {
					ring[i][at] = op(ast.Add, ring[(i+1)%round]...)
				}
				out = append(out, clause(deep(ast.Imp, ahead, op(ast.Add, ring[0]...))), ring[0][at:at+1])
			}
		}
	}
	both := make([]ast.Expr, 2)
	both[0], both[1] = op(ast.Add, both...), op(ast.Mul, both...)
	return append(out, both, both[:1], clause(op(ast.Or, both...)))
}

func TestEndlessClauses(t *testing.T) { // P1, P10.1, P10.2, P10.3
	right := programOf(t, "pub fun a(x:int{x>0}):int{res>x}=1;").Defs[0]
	for i, l := range endless() {
		what := fmt.Sprint("endless ", i)
		wantSig(t, what, sig.Sig{Name: "f", Params: []sig.Slot{{Name: "x", Base: 1}}, Base: 1, Clause: l}, "")
		wantSig(t, what, sig.Sig{Name: "f", Params: []sig.Slot{{Name: "x", Base: 1, Clause: l}}, Base: 1}, "")
		d := ast.Def{Pub: true, Name: "f", Params: []ast.Param{{Name: "x", Base: 1, Clause: l}}, Base: 1, Clause: l}
		if f, e := sig.FaceOf("m", ast.Program{Defs: []ast.Def{right, d, right}}); e != api.ErrForm || f.Module != "" || len(f.Sigs) != 0 {
			t.Error(what, "has a face", e)
		}
		if s := sig.Of(d); s.Name != "f" || s.Bare() != 0 || s.Right() {
			t.Error(what, "is another one")
		}
		if s, ok := sig.Find([]sig.Face{{Module: "m", Sigs: []sig.Sig{{Name: "f", Base: 1, Clause: l}}}}, "m", "f"); !ok || s.Right() {
			t.Error(what, "isn't found")
		}
	}
}
