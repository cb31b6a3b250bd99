package term_test

import (
	"maps"
	"math/big"
	"math/rand/v2"
	"slices"
	"strings"
	"testing"

	"touchstone/api"
	"touchstone/ast"
	"touchstone/bag"
	"touchstone/show"
	"touchstone/term"
	"touchstone/zed"
)

// model is a plainer term: factors by names, 0 too, and the rest by a name that no other has.
type model map[string]*big.Int

const restName = "the rest"

func (m model) of(name string) *big.Int {
	if n, has := m[name]; has {
		return n
	}
	return new(big.Int)
}

// names are those with a factor, rising.
func (m model) names() []string {
	var out []string
	for _, name := range slices.Sorted(maps.Keys(m)) {
		if name != restName && m[name].Sign() != 0 {
			out = append(out, name)
		}
	}
	return out
}

func (m model) text() string {
	out := ""
	for _, name := range m.names() {
		out += m[name].String() + "*" + name + "+"
	}
	return out + m.of(restName).String()
}

// plus is m and so many times more.
func (m model) plus(times *big.Int, more model) model {
	out := maps.Clone(m)
	for name, n := range more {
		out[name] = new(big.Int).Add(out.of(name), new(big.Int).Mul(times, n))
	}
	return out
}

func (m model) put(name string, u model) model {
	out := maps.Clone(m)
	delete(out, name)
	return out.plus(m.of(name), u)
}

// numbers are all of a model's, the rest among them.
func (m model) numbers() []*big.Int {
	out := []*big.Int{m.of(restName)}
	for _, name := range m.names() {
		out = append(out, m[name])
	}
	return out
}

// drawn is a term and its model.
type drawn struct {
	term  term.Term
	model model
}

func (d drawn) holds(t *testing.T, what string) {
	t.Helper()
	if got, want := d.term.String(), d.model.text(); got != want {
		t.Fatalf("%s: got %s, want %s", what, got, want)
	}
	if got, want := d.term.Names(), d.model.names(); !slices.Equal(got, want) {
		t.Fatalf("%s: %s has the names %q", what, d.term, got)
	}
	for _, name := range drawnNames {
		if got, want := d.term.Factor(name), d.model.of(name); got.String() != want.String() {
			t.Fatalf("%s: %s has %s times %q", what, d.term, got, name)
		}
	}
	if got, want := d.term.Rest(), d.model.of(restName); got.String() != want.String() {
		t.Fatalf("%s: %s has the rest %s", what, d.term, got)
	}
	var common big.Int
	for _, n := range d.model.numbers()[1:] {
		common.GCD(nil, nil, &common, new(big.Int).Abs(n))
	}
	if got := d.term.Common(); got.String() != common.String() {
		t.Fatalf("%s: %s has the common divisor %s", what, d.term, got)
	}
}

var drawnNames = []string{"", "a", "aa", "b", "res", "x", "x0", "x_", "y", "Z"}

// drawer draws by chance.
type drawer struct{ *rand.Rand }

func newDrawer(seed uint64) drawer { return drawer{rand.New(rand.NewPCG(seed, 13))} }

func (d drawer) name() string { return drawnNames[d.IntN(len(drawnNames))] }

// number is mostly a small one.
func (d drawer) number() *big.Int {
	n := big.NewInt(int64(d.IntN(9) - 4))
	if d.IntN(8) == 0 {
		n.Mul(n, big.NewInt(d.Int64()))
		n.Mul(n, big.NewInt(d.Int64()))
	}
	return n
}

func (d drawer) one() drawn {
	out := drawn{model: model{}}
	n := d.number()
	if d.IntN(3) == 0 {
		out.term, out.model[restName] = term.Num(number(n.String())), n
		return out
	}
	name := d.name()
	out.term, out.model[name] = term.Name(name), big.NewInt(1)
	return out
}

// next makes one of some of these.
func (d drawer) next(l []drawn) (drawn, string) {
	a, b, c := l[d.IntN(len(l))], l[d.IntN(len(l))], l[d.IntN(len(l))]
	one, n, name := big.NewInt(1), d.number(), d.name()
	switch d.IntN(6) {
	case 0:
		return drawn{a.term.Plus(b.term), a.model.plus(one, b.model)}, "plus"
	case 1:
		return drawn{a.term.Plus(b.term, c.term, a.term), a.model.plus(one, b.model).plus(one, c.model).plus(one, a.model)}, "plus three"
	case 2:
		return drawn{a.term.Minus(b.term), a.model.plus(big.NewInt(-1), b.model)}, "minus"
	case 3:
		return drawn{a.term.Times(number(n.String())), model{}.plus(n, a.model)}, "times"
	case 4:
		return drawn{a.term.Put(name, b.term), a.model.put(name, b.model)}, "put"
	}
	return d.one(), "one"
}

func TestDrawnTerms(t *testing.T) { // P13.1, P13.2, P13.3
	d := newDrawer(1)
	for range 300 {
		l := []drawn{d.one(), d.one(), d.one()}
		for range 40 {
			x, what := d.next(l)
			x.holds(t, what)
			d.holdsEval(t, x)
			d.holdsDivide(t, x)
			y := l[d.IntN(len(l))]
			if term.Same(x.term, y.term) != (x.model.text() == y.model.text()) {
				t.Fatal(x.term, "and", y.term)
			}
			if len(x.model.text()) > 600 {
				continue
			}
			l = append(l, x)
		}
		// What was made later hasn't changed them.
		for _, x := range l {
			x.holds(t, "later")
		}
	}
}

func (d drawer) holdsEval(t *testing.T, x drawn) {
	t.Helper()
	values := bag.NewMap[string, zed.Int]()
	sum, lacking := new(big.Int).Set(x.model.of(restName)), false
	for _, name := range drawnNames {
		n := d.number()
		factor := x.model.of(name)
		if d.IntN(20) == 0 {
			lacking = lacking || factor.Sign() != 0
			continue
		}
		values.Put(name, number(n.String()))
		sum.Add(sum, new(big.Int).Mul(factor, n))
	}
	v, e := x.term.Eval(values)
	if lacking && (e != api.ErrName || v.Sign() != 0) || !lacking && (e != api.OK || v.String() != sum.String()) {
		t.Fatalf("%s with %v: %s and error %d, want %s", x.term, values.Pairs(), v, e, sum)
	}
}

func divideError(m model, by *big.Int) api.Errno {
	if by.Sign() == 0 {
		return api.ErrZero
	}
	for _, n := range m.numbers() {
		if new(big.Int).Rem(n, by).Sign() != 0 {
			return api.ErrRange
		}
	}
	return api.OK
}

func (d drawer) holdsDivide(t *testing.T, x drawn) {
	t.Helper()
	by := d.number()
	got, e := x.term.Divide(number(by.String()))
	if want := divideError(x.model, by); e != want || e != api.OK && !term.Same(got, term.Term{}) {
		t.Fatalf("%s by %s: %s and error %d, want error %d", x.term, by, got, e, want)
	}
	if e == api.OK {
		out := model{}
		for name, n := range x.model {
			out[name] = new(big.Int).Quo(n, by)
		}
		drawn{got, out}.holds(t, "divided")
	}
}

// expr draws an expression; most are linear, and some are no formula.
func (d drawer) expr(room int) ast.Expr {
	if room == 0 {
		switch d.IntN(4) {
		case 0:
			return op(ast.Lit)
		case 1:
			return lit(d.IntN(5))
		case 2:
			return res
		}
		return name([]string{"a", "b", "x", "y"}[d.IntN(4)])
	}
	switch n := d.IntN(100); {
	case n < 20:
		return op(ast.Neg, d.expr(room-1))
	case n < 70:
		return op(ast.Add+d.IntN(2), d.expr(d.IntN(room)), d.expr(room-1))
	case n < 80:
		return op(ast.Mul, op(ast.Sub, lit(d.IntN(5)), lit(2)), d.expr(room-1))
	case n < 92:
		same := d.expr(room - 1)
		return op(ast.Mul, d.expr(room-1), op(ast.Sub, same, same))
	case n < 97:
		return op(ast.Mul, d.expr(room-1), d.expr(room-1))
	}
	return op(d.IntN(26), d.expr(room-1), d.expr(room-1))
}

// modelOf is a plainer way to an expression's term; none, if it has none.
func modelOf(e ast.Expr) model {
	var kids []model
	for _, kid := range e.Kids {
		m := modelOf(kid)
		if m == nil {
			return nil
		}
		kids = append(kids, m)
	}
	switch e.Op {
	case ast.Lit:
		n, _ := new(big.Int).SetString(e.Num.String(), 10)
		return model{restName: n}
	case ast.Var:
		return model{e.Name: big.NewInt(1)}
	case ast.Res:
		return model{"res": big.NewInt(1)}
	case ast.Neg:
		return model{}.plus(big.NewInt(-1), kids[0])
	case ast.Add:
		return kids[0].plus(big.NewInt(1), kids[1])
	case ast.Sub:
		return kids[0].plus(big.NewInt(-1), kids[1])
	case ast.Mul:
		if len(kids[0].names()) == 0 {
			return model{}.plus(kids[0].of(restName), kids[1])
		}
		if len(kids[1].names()) == 0 {
			return model{}.plus(kids[1].of(restName), kids[0])
		}
	}
	return nil
}

func TestDrawnExpressions(t *testing.T) { // P13.4
	d := newDrawer(2)
	seen := map[api.Errno]int{}
	for range 20000 {
		e := d.expr(d.IntN(6))
		want, text := api.OK, "0"
		if _, bad := show.Formula(e); bad != api.OK {
			want = api.ErrForm
		} else if m := modelOf(e); m == nil {
			want = api.ErrLinear
		} else {
			text = m.text()
		}
		got, err := term.Of(e)
		if err != want || got.String() != text {
			t.Fatalf("%s: got %s and error %d, want %s and error %d", e.Dump(), got, err, text, want)
		}
		seen[err]++
	}
	for _, e := range []api.Errno{api.OK, api.ErrForm, api.ErrLinear} {
		if seen[e] < 1000 {
			t.Error("too few with error", e, ":", seen)
		}
	}
}

func TestTermsReadAgain(t *testing.T) { // P13.1, P13.4: a term's text, below 0 in parentheses, is a formula with that term
	d := newDrawer(3)
	for range 2000 {
		u := term.Num(number(d.number().String()))
		for range d.IntN(6) {
			u = u.Plus(term.Name([]string{"a", "b", "x", "y"}[d.IntN(4)]).Times(number(d.number().String())))
		}
		var parts []string
		for _, p := range strings.Split(u.String(), "+") {
			parts = append(parts, "("+p+")")
		}
		wantOf(t, u.String(), formulaOf(t, strings.Join(parts, "+")), u.String())
	}
}
