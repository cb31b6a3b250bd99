package scope_test

import (
	"fmt"
	"math/rand/v2"
	"slices"
	"testing"

	"touchstone/api"
	"touchstone/ast"
	"touchstone/lex"
	"touchstone/scope"
	"touchstone/show"
	"touchstone/sig"
)

// model is a plainer way to what Check tells: all that is wrong, in order.
type model struct {
	p      ast.Program
	faces  []sig.Face
	faults []lex.Fault
}

func check(module string, p ast.Program, faces []sig.Face) lex.Fault {
	if !isRight(module, p, faces) {
		return lex.Fault{E: api.ErrForm}
	}
	m := model{p: p, faces: faces}
	var ahead []string
	for _, i := range p.Imports {
		m.tell(i.Name == module, api.ErrModule, i.At)
		m.tell(slices.Contains(ahead, i.Name), api.ErrTwice, i.At)
		m.tell(!m.hasFace(i.Name), api.ErrModule, i.At)
		ahead = append(ahead, i.Name)
	}
	ahead = nil
	for _, d := range p.Defs {
		m.tell(slices.Contains(ahead, d.Name), api.ErrTwice, d.At)
		ahead = append(ahead, d.Name)
	}
	for _, d := range p.Defs {
		ahead = nil
		for _, x := range d.Params {
			m.tell(slices.Contains(ahead, x.Name), api.ErrTwice, x.At)
			ahead = append(ahead, x.Name)
			for _, e := range x.Clause {
				m.visit(e, ahead, false)
			}
		}
		for _, e := range d.Clause {
			m.visit(e, ahead, true)
		}
		m.visit(d.Body, ahead, false)
	}
	return append(m.faults, lex.Fault{})[0]
}

// isRight tells whether all that is handed to Check is as it asks.
func isRight(module string, p ast.Program, faces []sig.Face) bool {
	_, e := show.Program(p)
	right := e == api.OK && lex.Plain(module)
	for i, f := range faces {
		right = right && f.Right()
		for _, ahead := range faces[:i] {
			right = right && ahead.Module != f.Module
		}
	}
	return right
}

func (m *model) tell(wrong bool, e api.Errno, at int) {
	if wrong {
		m.faults = append(m.faults, lex.Fault{E: e, At: at})
	}
}

func (m *model) hasFace(module string) bool {
	for _, f := range m.faces {
		if f.Module == module {
			return true
		}
	}
	return false
}

// visit goes through an expression in which these names are bound.
func (m *model) visit(e ast.Expr, bound []string, mayRes bool) {
	bound = slices.Clone(bound)
	switch e.Op {
	case ast.Var:
		m.tell(!slices.Contains(bound, e.Name), api.ErrName, e.At)
	case ast.Res:
		m.tell(!mayRes, api.ErrName, e.At)
	case ast.Let:
		m.visit(e.Kids[0], bound, mayRes)
		m.visit(e.Kids[1], append(bound, e.Name), mayRes)
		return
	case ast.Call:
		imported := slices.ContainsFunc(m.p.Imports, func(i ast.Import) bool { return i.Name == e.Module })
		m.tell(e.Module != "" && !imported, api.ErrModule, e.At)
		n := m.params(e)
		m.tell(n < 0, api.ErrName, e.At)
		m.tell(n != len(e.Kids), api.ErrArity, e.At)
	}
	for _, kid := range e.Kids {
		m.visit(kid, bound, mayRes)
	}
}

// params is how many parameters the callee of a call has; -1, if there is none.
func (m *model) params(e ast.Expr) int {
	if e.Module == "" {
		for _, d := range m.p.Defs {
			if d.Name == e.Name {
				return len(d.Params)
			}
		}
		return -1
	}
	if s, ok := sig.Find(m.faces, e.Module, e.Name); ok {
		return len(s.Params)
	}
	return -1
}

// drawer draws programs by chance, in which each thing has an At of its own.
type drawer struct {
	r     *rand.Rand
	at    int
	p     ast.Program
	faces []sig.Face
}

func newDrawer(seed uint64) *drawer { return &drawer{r: rand.New(rand.NewPCG(seed, 11))} }

func (d *drawer) one(l ...string) string { return l[d.r.IntN(len(l))] }

// next is an At that nothing has yet. They don't rise in the order in which things are drawn.
func (d *drawer) next() int {
	d.at++
	return d.at * 7919 % 100003
}

// countOf is how many kids an Op has.
var countOf = []int{0, 0, 0, 0, 1, 1, 2, 2, 2, 2, 2, 2, 2, 2, 2, 2, 2, 2, 2, 2, 3, 2, 2, 0}

// expr draws an expression with these names; a formula, if last is Imp.
func (d *drawer) expr(room, last int, mayRes bool, bound []string) ast.Expr {
	e := ast.Expr{Op: 1 + d.r.IntN(last), At: d.next()}
	if last == ast.Call && d.r.IntN(4) == 0 {
		e.Op = ast.Call
	}
	for room == 0 && countOf[e.Op-1] > 0 || e.Op == ast.Res && !mayRes || e.Op == ast.Var && len(bound) == 0 || e.Op == ast.Call && (room == 0 || !d.callee(&e)) {
		e.Op = 1 + d.r.IntN(last)
	}
	count := countOf[e.Op-1]
	switch e.Op {
	case ast.Var:
		e.Name = d.one(bound...)
	case ast.Let:
		e.Name = d.one("x", "y", "z", "f0", "m")
		e.Kids = clause(d.expr(room-1, last, mayRes, bound))
		bound = append(slices.Clone(bound), e.Name)
		count = 1
	case ast.Call:
		count = len(d.paramsOf(e))
	}
	for range count {
		e.Kids = append(e.Kids, d.expr(room-1, last, mayRes, bound))
	}
	return e
}

// callee draws what is called, if there is something.
func (d *drawer) callee(e *ast.Expr) bool {
	if len(d.p.Imports) == 0 || d.r.IntN(2) == 0 {
		e.Module, e.Name = "", d.p.Defs[d.r.IntN(len(d.p.Defs))].Name
		return true
	}
	at := d.r.IntN(len(d.p.Imports))
	e.Module, e.Name = d.p.Imports[at].Name, d.one("f0", "f1", "g")
	if _, ok := sig.Find(d.faces, e.Module, e.Name); !ok {
		e.Module, e.Name = "", ""
		return false
	}
	return true
}

func (d *drawer) paramsOf(e ast.Expr) []sig.Slot {
	s, _ := scope.Callee(d.p, d.faces, e)
	return s.Params
}

func (d *drawer) drawFaces() {
	d.faces = nil
	for _, module := range []string{"m", "n", "x", "own"} {
		f := sig.Face{Module: module}
		for _, s := range []string{"f0", "f1", "g"} {
			if d.r.IntN(3) > 0 {
				f.Sigs = append(f.Sigs, sig.Sig{Name: s, Params: []sig.Slot{{Name: "x", Base: 1}, {Name: "y", Base: 1}}[:d.r.IntN(3)], Base: 1})
			}
		}
		d.faces = append(d.faces, f)
	}
	d.r.Shuffle(len(d.faces), func(i, j int) { d.faces[i], d.faces[j] = d.faces[j], d.faces[i] })
}

// program draws a program in which nothing is wrong.
func (d *drawer) program() {
	d.drawFaces()
	d.p, d.at = ast.Program{}, 0
	for _, i := range d.r.Perm(3)[:d.r.IntN(4)] {
		d.p.Imports = append(d.p.Imports, ast.Import{Name: []string{"m", "n", "x"}[i], At: d.next()})
	}
	for _, i := range d.r.Perm(4)[:1+d.r.IntN(4)] {
		x := ast.Def{Pub: d.r.IntN(2) == 0, Name: fmt.Sprint("f", i), Base: 1, At: d.next()}
		for _, j := range d.r.Perm(4)[:d.r.IntN(5)] {
			x.Params = append(x.Params, ast.Param{Name: []string{"x", "y", "f0", "m"}[j], Base: 1, At: d.next()})
		}
		d.p.Defs = append(d.p.Defs, x)
	}
	for i := range d.p.Defs {
		x := &d.p.Defs[i]
		var bound []string
		for j := range x.Params {
			bound = append(bound, x.Params[j].Name)
			x.Params[j].Clause = d.clause(false, bound)
		}
		x.Clause = d.clause(true, bound)
		x.Body = d.expr(d.r.IntN(6), ast.Call, false, bound)
	}
}

func (d *drawer) clause(mayRes bool, bound []string) []ast.Expr {
	if d.r.IntN(2) == 0 {
		return nil
	}
	return clause(d.expr(d.r.IntN(4), ast.Imp, mayRes, bound))
}

// inside are all expressions of a program.
func inside(p *ast.Program) []*ast.Expr {
	var out []*ast.Expr
	var visit func(l []ast.Expr)
	visit = func(l []ast.Expr) {
		for i := range l {
			out = append(out, &l[i])
			visit(l[i].Kids)
		}
	}
	for i := range p.Defs {
		d := &p.Defs[i]
		for _, x := range d.Params {
			visit(x.Clause)
		}
		visit(d.Clause)
		out = append(out, &d.Body)
		visit(d.Body.Kids)
	}
	return out
}

func (d *drawer) odd() string {
	return d.one("x", "y", "z", "f0", "f1", "f2", "m", "n", "own", "q", "g", "x", "y", "f0", "f1", "let", "")
}

// spoil changes something of a program, in which nothing may be wrong after that.
func (d *drawer) spoil() {
	x := &d.p.Defs[d.r.IntN(len(d.p.Defs))]
	switch d.r.IntN(10) {
	case 0:
		d.p.Imports = append(d.p.Imports, ast.Import{Name: d.odd(), At: d.next()})
	case 1:
		if len(d.p.Imports) > 0 {
			d.p.Imports = d.p.Imports[1:]
		}
	case 2:
		x.Name = d.odd()
	case 3:
		x.Params = slices.Insert(slices.Clone(x.Params), d.r.IntN(len(x.Params)+1), ast.Param{Name: d.odd(), Base: 1, At: d.next()})
	case 4:
		if len(x.Params) > 0 {
			at := d.r.IntN(len(x.Params))
			x.Params = slices.Delete(slices.Clone(x.Params), at, at+1)
		}
	case 5:
		d.r.Shuffle(len(x.Params), func(i, j int) { x.Params[i], x.Params[j] = x.Params[j], x.Params[i] })
	case 6:
		d.spoilFaces()
	default:
		all := inside(&d.p)
		d.spoilExpr(all[d.r.IntN(len(all))])
	}
}

func (d *drawer) spoilFaces() {
	at := d.r.IntN(len(d.faces))
	switch d.r.IntN(4) {
	case 0:
		d.faces = slices.Delete(d.faces, at, at+1)
		if len(d.faces) == 0 {
			d.drawFaces()
		}
	case 1:
		d.faces[at].Module = d.odd()
	case 2:
		d.faces[at].Sigs = nil
	case 3:
		d.faces[at].Sigs = append(d.faces[at].Sigs, sig.Sig{Name: d.odd(), Base: 1})
	}
}

func (d *drawer) spoilExpr(e *ast.Expr) {
	switch d.r.IntN(4) {
	case 0:
		if e.Name != "" {
			e.Name = d.odd()
		}
	case 1:
		if e.Op == ast.Call {
			e.Module = d.odd()
		}
	case 2:
		if e.Op == ast.Call {
			e.Kids = append(slices.Clone(e.Kids), ast.Expr{Op: ast.Truth, At: d.next()})
		}
	case 3:
		*e = ast.Expr{Op: ast.Var, Name: d.odd(), At: e.At}
		if d.r.IntN(3) == 0 {
			*e = ast.Expr{Op: ast.Res, At: e.At}
		}
	}
}

func TestMany(t *testing.T) { // P11.1
	t.Parallel()
	d := newDrawer(1)
	told := map[api.Errno]int{}
	for range 20000 {
		d.program()
		if f := scope.Check("own", d.p, d.faces); f != (lex.Fault{}) || check("own", d.p, d.faces) != f {
			t.Fatalf("%s: got %v", d.p.Dump(), f)
		}
		for range 1 + d.r.IntN(3) {
			d.spoil()
		}
		module := d.one("own", "own", "own", "m", "f0")
		got, want := scope.Check(module, d.p, d.faces), check(module, d.p, d.faces)
		if got != want {
			t.Fatalf("%s: got %v, want %v", d.p.Dump(), got, want)
		}
		told[got.E]++
	}
	for _, e := range []api.Errno{api.OK, api.ErrForm, api.ErrModule, api.ErrTwice, api.ErrName, api.ErrArity} {
		if told[e] < 500 {
			t.Error(e, told)
		}
	}
}

// callee is a plainer way to what Callee tells: the place of the definition, or the module's and the signature's places; -1, if there is none.
func callee(p ast.Program, faces []sig.Face, e ast.Expr) (int, int) {
	if e.Op != ast.Call {
		return -1, -1
	}
	if e.Module == "" {
		return -1, slices.IndexFunc(p.Defs, func(d ast.Def) bool { return d.Name == e.Name })
	}
	at := slices.IndexFunc(faces, func(f sig.Face) bool { return f.Module == e.Module })
	if at < 0 {
		return -1, -1
	}
	return at, slices.IndexFunc(faces[at].Sigs, func(s sig.Sig) bool { return s.Name == e.Name })
}

func TestManyCallees(t *testing.T) { // P11.2
	t.Parallel()
	d := newDrawer(2)
	told := map[string]int{}
	for range 4000 {
		d.program()
		for range d.r.IntN(4) {
			d.spoil()
		}
		for _, e := range inside(&d.p) {
			s, ok := scope.Callee(d.p, d.faces, *e)
			module, at := callee(d.p, d.faces, *e)
			var want sig.Sig
			switch {
			case at < 0:
				told["none"]++
			case module < 0:
				want = sig.Of(d.p.Defs[at])
				told["own"]++
			default:
				want = d.faces[module].Sigs[at]
				told["another's"]++
			}
			if ok != (at >= 0) || whole(s) != whole(want) {
				t.Fatalf("%s of %s: got %s and %t, want %s", e.Dump(), d.p.Dump(), whole(s), ok, whole(want))
			}
		}
	}
	if told["none"] < 1000 || told["own"] < 1000 || told["another's"] < 1000 {
		t.Error(told)
	}
}
