package types_test

import (
	"fmt"
	"math/rand/v2"
	"slices"
	"testing"

	"touchstone/api"
	"touchstone/ast"
	"touchstone/lex"
	"touchstone/scope"
	"touchstone/sig"
	"touchstone/types"
)

// rules tell of each Op, but Var, Res and Call, the bases of its kids, and behind them its own: i a number, b a truth, and one letter for what is alike.
var rules = map[int]string{
	ast.Lit: "i", ast.Truth: "b", ast.Neg: "ii", ast.Not: "bb",
	ast.Add: "iii", ast.Sub: "iii", ast.Mul: "iii", ast.Div: "iii", ast.Mod: "iii",
	ast.Eq: "xxb", ast.Ne: "xxb", ast.Lt: "iib", ast.Le: "iib", ast.Gt: "iib", ast.Ge: "iib",
	ast.And: "bbb", ast.Or: "bbb", ast.Imp: "bbb",
	ast.If: "bxxx", ast.Let: "xyy", ast.Assert: "bxx",
}

// letters are those of bases.
const letters = "-ib"

// binding is a name with the letter of its base.
type binding struct {
	name   string
	letter byte
}

// model is a plainer way to what Check and Base tell: all that is wrong, in order.
type model struct {
	p      ast.Program
	faces  []sig.Face
	res    byte
	faults []lex.Fault
}

func (m *model) first() lex.Fault { return append(m.faults, lex.Fault{})[0] }

// rule is that of an expression; none, if it isn't one, or nothing is what it names.
func (m *model) rule(e ast.Expr, bound []binding) string {
	switch e.Op {
	case ast.Var:
		for _, b := range slices.Backward(bound) {
			if b.name == e.Name {
				return string(b.letter)
			}
		}
		return ""
	case ast.Res:
		return string(m.res)
	case ast.Call:
		s, ok := scope.Callee(m.p, m.faces, e)
		if !ok || len(s.Params) != len(e.Kids) {
			return ""
		}
		var out string
		for _, x := range s.Params {
			out += letters[x.Base : x.Base+1]
		}
		return out + letters[s.Base:s.Base+1]
	}
	return rules[e.Op]
}

// visit goes through an expression, and answers the letter of its base.
func (m *model) visit(e ast.Expr, bound []binding) byte {
	rule := m.rule(e, bound)
	if len(rule) != len(e.Kids)+1 {
		m.faults = append(m.faults, lex.Fault{E: api.ErrForm})
		return '-'
	}
	is := map[byte]byte{'i': 'i', 'b': 'b'}
	for i, kid := range e.Kids {
		got := m.visit(kid, bound)
		if e.Op == ast.Let && i == 0 {
			bound = append(slices.Clip(bound), binding{e.Name, got})
		}
		if must, ok := is[rule[i]]; !ok {
			is[rule[i]] = got
		} else if must != got {
			m.faults = append(m.faults, lex.Fault{E: api.ErrType, At: kid.At})
		}
	}
	return is[rule[len(e.Kids)]]
}

// must goes through an expression that must be of a base.
func (m *model) must(e ast.Expr, bound []binding, letter byte) {
	if m.visit(e, bound) != letter {
		m.faults = append(m.faults, lex.Fault{E: api.ErrType, At: e.At})
	}
}

func check(module string, p ast.Program, faces []sig.Face) lex.Fault {
	if f := scope.Check(module, p, faces); f.E != api.OK {
		return f
	}
	m := model{p: p, faces: faces}
	for _, d := range p.Defs {
		m.res = letters[d.Base]
		var bound []binding
		for _, x := range d.Params {
			bound = append(bound, binding{x.Name, letters[x.Base]})
			for _, e := range x.Clause {
				m.must(e, bound, 'b')
			}
		}
		for _, e := range d.Clause {
			m.must(e, bound, 'b')
		}
		m.must(d.Body, bound, m.res)
	}
	return m.first()
}

func base(p ast.Program, faces []sig.Face, names []string, bases []int, e ast.Expr) (int, lex.Fault) {
	m := model{p: p, faces: faces, res: 'i'}
	var bound []binding
	for i, b := range bases {
		m.res = letters[b]
		if i < len(names) {
			bound = append(bound, binding{names[i], m.res})
		}
	}
	got := m.visit(e, bound)
	if len(m.faults) > 0 {
		return 0, m.first()
	}
	return map[byte]int{'i': api.Int, 'b': api.Bool}[got], lex.Fault{}
}

// drawer draws programs by chance, in which each thing has an At of its own.
type drawer struct {
	r     *rand.Rand
	at    int
	p     ast.Program
	faces []sig.Face
	res   byte
}

func newDrawer(seed uint64) *drawer { return &drawer{r: rand.New(rand.NewPCG(seed, 12))} }

func (d *drawer) one(l ...string) string { return l[d.r.IntN(len(l))] }

// next is an At that nothing has yet. They don't rise in the order in which things are drawn.
func (d *drawer) next() int {
	d.at++
	return d.at * 7919 % 100003
}

func (d *drawer) letter() byte { return letters[1+d.r.IntN(2)] }

// expr draws an expression of a base, with these names and Ops up to last alone; a result may be in it, if mayRes.
func (d *drawer) expr(letter byte, room, last int, mayRes bool, bound []binding) ast.Expr {
	m := model{p: d.p, faces: d.faces, res: d.res}
	for {
		e := ast.Expr{Op: 1 + d.r.IntN(last), At: d.next()}
		switch e.Op {
		case ast.Var:
			e.Name = d.one("x", "y", "z", "f0", "b", "c")
		case ast.Let:
			e.Name = d.one("x", "y", "z", "f0", "m")
		case ast.Call:
			d.callee(&e)
		}
		rule := m.rule(e, bound)
		if rule == "" || e.Op == ast.Res && !mayRes || room == 0 && len(rule) > 1 {
			continue
		}
		is := map[byte]byte{'i': 'i', 'b': 'b', 'x': d.letter(), 'y': d.letter()}
		if own := rule[len(rule)-1]; own == 'x' || own == 'y' {
			is[own] = letter
		} else if own != letter {
			continue
		}
		e.Kids = nil
		inner := bound
		for i := range len(rule) - 1 {
			e.Kids = append(e.Kids, d.expr(is[rule[i]], room-1, last, mayRes, inner))
			if e.Op == ast.Let {
				inner = append(slices.Clip(bound), binding{e.Name, is['x']})
			}
		}
		return e
	}
}

// callee draws what is called, and gives it as many kids as it has parameters: rule asks for that.
func (d *drawer) callee(e *ast.Expr) {
	e.Module, e.Name = d.one("", "", "m", "n"), d.one("f0", "f1", "f2", "g")
	s, _ := scope.Callee(d.p, d.faces, *e)
	e.Kids = make([]ast.Expr, len(s.Params))
}

func (d *drawer) drawFaces() {
	d.faces = nil
	for _, module := range []string{"m", "n", "x"} {
		f := sig.Face{Module: module}
		for _, s := range []string{"f0", "f1", "g"} {
			if d.r.IntN(3) > 0 {
				f.Sigs = append(f.Sigs, sig.Sig{Name: s, Params: []sig.Slot{{Name: "x", Base: 1 + d.r.IntN(2)}, {Name: "y", Base: 1 + d.r.IntN(2)}}[:d.r.IntN(3)], Base: 1 + d.r.IntN(2)})
			}
		}
		d.faces = append(d.faces, f)
	}
	d.r.Shuffle(len(d.faces), func(i, j int) { d.faces[i], d.faces[j] = d.faces[j], d.faces[i] })
}

// program draws a program in which nothing is wrong.
func (d *drawer) program() {
	d.drawFaces()
	d.at = 0
	d.p = ast.Program{Imports: []ast.Import{{Name: "m", At: d.next()}, {Name: "n", At: d.next()}}}
	for i := range 1 + d.r.IntN(3) {
		x := ast.Def{Name: fmt.Sprint("f", i), Base: 1 + d.r.IntN(2), At: d.next()}
		for _, j := range d.r.Perm(4)[:d.r.IntN(5)] {
			x.Params = append(x.Params, ast.Param{Name: []string{"x", "y", "f0", "m"}[j], Base: 1 + d.r.IntN(2), At: d.next()})
		}
		d.p.Defs = append(d.p.Defs, x)
	}
	for i := range d.p.Defs {
		x := &d.p.Defs[i]
		d.res = letters[x.Base]
		var bound []binding
		for j := range x.Params {
			bound = append(bound, binding{x.Params[j].Name, letters[x.Params[j].Base]})
			x.Params[j].Clause = d.clause(false, bound)
		}
		x.Clause = d.clause(true, bound)
		x.Body = d.expr(d.res, d.r.IntN(5), ast.Call, false, bound)
	}
}

func (d *drawer) clause(mayRes bool, bound []binding) []ast.Expr {
	if d.r.IntN(2) == 0 {
		return nil
	}
	return clause(d.expr('b', d.r.IntN(4), ast.Imp, mayRes, bound))
}

// within are an expression and all that is in it.
func within(e *ast.Expr) []*ast.Expr {
	out := []*ast.Expr{e}
	for i := range e.Kids {
		out = append(out, within(&e.Kids[i])...)
	}
	return out
}

// inside are all expressions of a program.
func inside(p *ast.Program) []*ast.Expr {
	var out []*ast.Expr
	for i := range p.Defs {
		d := &p.Defs[i]
		for j := range d.Params {
			for k := range d.Params[j].Clause {
				out = append(out, within(&d.Params[j].Clause[k])...)
			}
		}
		for k := range d.Clause {
			out = append(out, within(&d.Clause[k])...)
		}
		out = append(out, within(&d.Body)...)
	}
	return out
}

// spoil changes something of a program, in which nothing may be wrong after that.
func (d *drawer) spoil() {
	x := &d.p.Defs[d.r.IntN(len(d.p.Defs))]
	switch d.r.IntN(10) {
	case 0:
		x.Base = 3 - x.Base
	case 1:
		if len(x.Params) > 0 {
			p := &x.Params[d.r.IntN(len(x.Params))]
			p.Base = 3 - p.Base
		}
	case 2:
		if f := d.faces[d.r.IntN(len(d.faces))]; len(f.Sigs) > 0 {
			s := &f.Sigs[d.r.IntN(len(f.Sigs))]
			s.Base = 3 - s.Base
			for i := range s.Params {
				s.Params[i].Base = 1 + d.r.IntN(2)
			}
		}
	case 3:
		d.r.Shuffle(len(x.Params), func(i, j int) { x.Params[i], x.Params[j] = x.Params[j], x.Params[i] })
	default:
		d.spoilExpr(inside(&d.p))
	}
}

// spoilExpr changes one of these expressions.
func (d *drawer) spoilExpr(all []*ast.Expr) {
	e := all[d.r.IntN(len(all))]
	switch d.r.IntN(6) {
	case 0:
		*e = at(e.At, []ast.Expr{num(1), yes, name(d.one("x", "y", "b", "c")), res}[d.r.IntN(4)])
	case 1:
		if e.Op == ast.Var || e.Op == ast.Let || e.Op == ast.Call {
			e.Name = d.one("x", "y", "z", "f0", "f1", "m", "g")
		}
	case 2:
		if len(e.Kids) == 2 && e.Op != ast.Call && e.Op != ast.Let {
			e.Op = []int{ast.Add, ast.Mod, ast.Eq, ast.Ne, ast.Lt, ast.Ge, ast.And, ast.Imp}[d.r.IntN(8)]
		}
	case 3:
		if len(e.Kids) == 1 && e.Op != ast.Call {
			e.Op = ast.Neg + ast.Not - e.Op
		}
	case 4:
		d.r.Shuffle(len(e.Kids), func(i, j int) { e.Kids[i], e.Kids[j] = e.Kids[j], e.Kids[i] })
	case 5:
		*e = at(d.next(), op(ast.Neg+d.r.IntN(2), *e))
	}
}

func TestManyPrograms(t *testing.T) { // P12.1
	t.Parallel()
	d := newDrawer(1)
	told := map[api.Errno]int{}
	for range 20000 {
		d.program()
		if f := types.Check("own", d.p, d.faces); f != (lex.Fault{}) || check("own", d.p, d.faces) != f {
			t.Fatalf("%s: got %v", d.p.Dump(), f)
		}
		for range 1 + d.r.IntN(3) {
			d.spoil()
		}
		got, want := types.Check("own", d.p, d.faces), check("own", d.p, d.faces)
		if got != want {
			t.Fatalf("%s: got %v, want %v", d.p.Dump(), got, want)
		}
		told[got.E]++
	}
	for _, e := range []api.Errno{api.OK, api.ErrForm, api.ErrName, api.ErrType} {
		if told[e] < 500 {
			t.Error(e, told)
		}
	}
}

func TestManyExpressions(t *testing.T) { // P12.2
	t.Parallel()
	d := newDrawer(2)
	told := map[string]int{}
	for range 40000 {
		d.program()
		d.faces = slices.Repeat(d.faces, 1+d.r.IntN(2))
		var names []string
		bases := make([]int, d.r.IntN(7))
		var bound []binding
		d.res = 'i'
		for i := range bases {
			bases[i] = 1 + d.r.IntN(2)
			d.res = letters[bases[i]]
			if i == len(names) && d.r.IntN(8) > 0 {
				names = append(names, d.one("x", "y", "b"))
				bound = append(bound, binding{names[i], d.res})
			}
		}
		letter := d.letter()
		e := d.expr(letter, d.r.IntN(6), ast.Call, true, bound)
		if b, f := types.Base(d.p, d.faces, names, bases, e); letters[b] != letter || f != (lex.Fault{}) {
			t.Fatalf("%s with %v of %v: got %d and %v", e.Dump(), names, bases, b, f)
		}
		for range 1 + d.r.IntN(3) {
			d.spoilExpr(within(&e))
		}
		b, f := types.Base(d.p, d.faces, names, bases, e)
		want, fault := base(d.p, d.faces, names, bases, e)
		if b != want || f != fault {
			t.Fatalf("%s with %v of %v: got %d and %v, want %d and %v", e.Dump(), names, bases, b, f, want, fault)
		}
		told[fmt.Sprint(b, f.E)]++
	}
	for _, what := range []string{"1 0", "2 0", "0 10", "0 34"} {
		if told[what] < 1000 {
			t.Error(what, told)
		}
	}
}

func TestEachOpOfEachBases(t *testing.T) { // P12.2
	// All kids of all Ops: i a number, b a truth, r a result that is a truth.
	kids := []ast.Expr{at(1, name("i")), at(2, name("b")), at(3, res), at(4, num(5)), at(5, op(ast.Not, at(6, yes)))}
	c := context{names: []string{"i", "b"}, bases: []int{1, 2}}
	var choose func(o int, rule string, l []ast.Expr)
	choose = func(o int, rule string, l []ast.Expr) {
		if len(l)+1 < len(rule) {
			for i, e := range kids {
				e.At = 10*(len(l)+1) + i
				choose(o, rule, append(slices.Clip(l), e))
			}
			return
		}
		e := ast.Expr{Op: o, Kids: l}
		if o == ast.Let {
			e.Name = "i"
		}
		b, f := base(c.p, c.faces, c.names, c.bases, e)
		c.wantBase(t, e.Dump(), e, b, f)
	}
	for o, rule := range rules {
		choose(o, rule, nil)
	}
}
