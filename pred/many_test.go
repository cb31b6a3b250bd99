package pred_test

import (
	"maps"
	"math/rand/v2"
	"slices"
	"strings"
	"testing"

	"touchstone/api"
	"touchstone/ast"
	"touchstone/bag"
	"touchstone/pred"
	"touchstone/show"
	"touchstone/term"
	"touchstone/zed"
)

// world has values of names.
type world struct {
	values map[string]int
	flags  map[string]bool
}

func (w world) maps() (*bag.Map[string, zed.Int], *bag.Map[string, bool]) {
	values, flags := bag.NewMap[string, zed.Int](), bag.NewMap[string, bool]()
	for name, n := range w.values {
		values.Put(name, zed.From(n))
	}
	for name, yes := range w.flags {
		flags.Put(name, yes)
	}
	return values, flags
}

// worth is a term's value in a world with all of its names.
func (w world) worth(u term.Term) int {
	n, _ := u.Rest().Small()
	for _, name := range u.Names() {
		factor, _ := u.Factor(name).Small()
		n += factor * w.values[name]
	}
	return n
}

// holds is a plainer way to whether a right predicate holds in a world with all of its names.
func (w world) holds(p pred.Pred) bool {
	count := 0
	for _, kid := range p.Kids {
		if w.holds(kid) {
			count++
		}
	}
	return p.Kind == pred.Yes || p.Kind == pred.Le && w.worth(p.Term) <= 0 || p.Kind == pred.Eq && w.worth(p.Term) == 0 || p.Kind == pred.Flag && w.flags[p.Name] ||
		p.Kind == pred.Not && count == 0 || p.Kind == pred.And && count == len(p.Kids) || p.Kind == pred.Or && count > 0
}

// textOf is a plainer way to a right predicate's text.
func textOf(p pred.Pred) string {
	var kids []string
	for _, kid := range p.Kids {
		kids = append(kids, textOf(kid))
	}
	list := strings.Join(kids, ",")
	return []string{"", "T", "F", "(" + p.Term.String() + "<=0)", "(" + p.Term.String() + "=0)", "?" + p.Name, "!" + list, "&(" + list + ")", "|(" + list + ")"}[p.Kind]
}

// inwardText is a plainer way to the text of a right predicate, or of its Not, pushed inwards.
func inwardText(p pred.Pred, denied bool) string {
	var kids []string
	for _, kid := range p.Kids {
		kids = append(kids, inwardText(kid, denied != (p.Kind == pred.Not)))
	}
	list, one := strings.Join(kids, ","), term.Num(zed.From(1))
	above := "(" + one.Minus(p.Term).String() + "<=0)"
	switch {
	case p.Kind == pred.Not:
		return list
	case !denied && len(kids) == 0:
		return textOf(p)
	case p.Kind == pred.And && !denied, p.Kind == pred.Or && denied:
		return "&(" + list + ")"
	case p.Kind == pred.And, p.Kind == pred.Or:
		return "|(" + list + ")"
	case p.Kind == pred.Eq:
		return "|((" + p.Term.Plus(one).String() + "<=0)," + above + ")"
	case p.Kind == pred.Le:
		return above
	}
	return map[int]string{pred.Yes: "F", pred.No: "T", pred.Flag: "!?" + p.Name}[p.Kind]
}

// collect adds the names of a right predicate to those of numbers and of flags.
func collect(p pred.Pred, numbers, flags map[string]bool) {
	for _, name := range p.Term.Names() {
		numbers[name] = true
	}
	if p.Kind == pred.Flag {
		flags[p.Name] = true
	}
	for _, kid := range p.Kids {
		collect(kid, numbers, flags)
	}
}

// sizeOf is how many predicates there are in one.
func sizeOf(p pred.Pred) int {
	n := 1
	for _, kid := range p.Kids {
		n += sizeOf(kid)
	}
	return n
}

// over are all predicates made of these by one kind more, with up to two kids, and these.
func over(l []pred.Pred) []pred.Pred {
	out := slices.Clone(l)
	out = append(out, pred.Pred{Kind: pred.And}, pred.Pred{Kind: pred.Or})
	for _, a := range l {
		out = append(out, pred.Pred{Kind: pred.Not, Kids: []pred.Pred{a}})
		for _, kind := range []int{pred.And, pred.Or} {
			out = append(out, pred.Pred{Kind: kind, Kids: []pred.Pred{a}})
			for _, b := range l {
				out = append(out, pred.Pred{Kind: kind, Kids: []pred.Pred{a, b}})
			}
		}
	}
	return out
}

// holdsAll holds all that is told of a predicate against the plainer ways.
func holdsAll(t *testing.T, p pred.Pred, worlds []world) {
	t.Helper()
	text := textOf(p)
	if !p.Right() || p.String() != text {
		t.Fatalf("%s isn't right, or has the text %s", text, p)
	}
	inward, e := p.Inward()
	if e != api.OK || inward.String() != inwardText(p, false) {
		t.Fatalf("%s: %s inward, and error %d", text, inward, e)
	}
	want := [2]map[string]bool{{}, {}}
	collect(p, want[0], want[1])
	numbers, flags := p.Names()
	if !slices.Equal(numbers, slices.Sorted(maps.Keys(want[0]))) || !slices.Equal(flags, slices.Sorted(maps.Keys(want[1]))) {
		t.Fatalf("%s: the names %q and %q", text, numbers, flags)
	}
	for _, w := range worlds {
		values, truths := w.maps()
		known := true
		for _, name := range numbers {
			_, has := w.values[name]
			known = known && has
		}
		for _, name := range flags {
			_, has := w.flags[name]
			known = known && has
		}
		for _, q := range []pred.Pred{p, inward} {
			got, e := q.Eval(values, truths)
			if known && (e != api.OK || got != w.holds(p)) || !known && (e != api.ErrName || got) {
				t.Fatalf("%s (of %s) with %v: %t and error %d", q, text, w, got, e)
			}
		}
	}
}

func TestAllSmallOnes(t *testing.T) { // P14.1, P14.2, P14.3
	var worlds []world
	for x := -2; x <= 2; x++ {
		for _, p := range []bool{true, false} {
			worlds = append(worlds, world{map[string]int{"x": x}, map[string]bool{"p": p}})
		}
	}
	worlds = append(worlds, world{map[string]int{"p": 1}, map[string]bool{"p": true}}, world{map[string]int{"x": 0}, map[string]bool{"x": true}})
	leaves := []pred.Pred{made("T"), made("F"), made("?p"), made("(1*x+-1<=0)"), made("(2*x+-2=0)")}
	small := over(leaves)
	for _, p := range over(small) {
		holdsAll(t, p, worlds)
	}
	for _, p := range small {
		for _, q := range over(leaves[:3]) {
			set, e := p.Set("p", q)
			if e != api.OK || textOf(set) != strings.ReplaceAll(textOf(p), "?p", textOf(q)) {
				t.Fatalf("%s with %s for p: %s and error %d", p, q, set, e)
			}
		}
		for _, q := range small {
			got := []string{pred.All(p, q, p).String(), pred.Any(p, q).String(), pred.Deny(q).String()}
			if !slices.Equal(got, []string{"&(" + textOf(p) + "," + textOf(q) + "," + textOf(p) + ")", "|(" + textOf(p) + "," + textOf(q) + ")", "!" + textOf(q)}) {
				t.Fatal(got)
			}
		}
	}
}

// drawer draws by chance.
type drawer struct{ *rand.Rand }

func newDrawer(seed uint64) drawer { return drawer{rand.New(rand.NewPCG(seed, 14))} }

func (d drawer) one(l ...string) string { return l[d.IntN(len(l))] }

func (d drawer) term() term.Term {
	u := term.Num(zed.From(d.IntN(9) - 4))
	for range d.IntN(4) {
		u = u.Plus(term.Name(d.one("a", "b", "res", "x")).Times(zed.From(d.IntN(7) - 3)))
	}
	return u
}

// pred is a right one.
func (d drawer) pred(room int) pred.Pred {
	kind := pred.Yes + d.IntN(5)
	if room > 0 && d.IntN(5) > 0 {
		kind = pred.Not + d.IntN(3)
	}
	p := pred.Pred{Kind: kind}
	switch kind {
	case pred.Le, pred.Eq:
		p.Term = d.term()
	case pred.Flag:
		p.Name = d.one("p", "q", "res", "x")
	case pred.Not:
		p.Kids = []pred.Pred{d.pred(room - 1)}
	case pred.And, pred.Or:
		for range d.IntN(4) {
			p.Kids = append(p.Kids, d.pred(room-1))
		}
	}
	return p
}

// world has most of the names.
func (d drawer) world() world {
	w := world{map[string]int{}, map[string]bool{}}
	for _, name := range []string{"a", "b", "res", "x"} {
		if d.IntN(20) > 0 {
			w.values[name] = d.IntN(9) - 4
		}
	}
	for _, name := range []string{"p", "q", "res", "x"} {
		if d.IntN(20) > 0 {
			w.flags[name] = d.IntN(2) == 0
		}
	}
	return w
}

func TestDrawnOnes(t *testing.T) { // P14.1, P14.2, P14.3
	d := newDrawer(1)
	for range 10000 {
		p, w := d.pred(d.IntN(6)), d.world()
		holdsAll(t, p, []world{w, d.world(), d.world()})
		d.holdsPut(t, p, w)
		d.holdsSet(t, p, w)
	}
}

// putIn is a plainer way to a right predicate with a term in a name's place.
func putIn(p pred.Pred, name string, u term.Term) pred.Pred {
	out := pred.Pred{Kind: p.Kind, Name: p.Name, Term: p.Term.Put(name, u)}
	for _, kid := range p.Kids {
		out.Kids = append(out.Kids, putIn(kid, name, u))
	}
	return out
}

func (d drawer) holdsPut(t *testing.T, p pred.Pred, w world) {
	t.Helper()
	name, u := d.one("a", "b", "res", "x", "none"), d.term()
	got, e := p.Put(name, u)
	if e != api.OK || !same(got, putIn(p, name, u)) {
		t.Fatalf("%s with %s for %s: %s and error %d", p, u, name, got, e)
	}
	// It holds where p does with the term's worth.
	for _, name := range []string{"a", "b", "res", "x"} {
		w.values[name] += 0
	}
	yes := w.holds(got)
	w.values[name] = w.worth(u)
	if yes != w.holds(p) {
		t.Fatalf("%s with %s for %s: %s", p, u, name, got)
	}
}

func (d drawer) holdsSet(t *testing.T, p pred.Pred, w world) {
	t.Helper()
	name, q := d.one("p", "q", "res", "x", "none"), d.pred(d.IntN(4))
	got, e := p.Set(name, q)
	count := strings.Count(textOf(p), "?"+name)
	if sizeOf(p)+count*(sizeOf(q)-1) > api.MaxAtoms {
		wantError(t, "Set", got, e, api.ErrFull)
		return
	}
	if e != api.OK || got.String() != strings.ReplaceAll(textOf(p), "?"+name, textOf(q)) {
		t.Fatalf("%s with %s for %s: %s and error %d", p, q, name, got, e)
	}
	// It holds where p does with whether q holds.
	yes := w.holds(got)
	w.flags[name] = w.holds(q)
	if yes != w.holds(p) {
		t.Fatalf("%s with %s for %s: %s", p, q, name, got)
	}
}

// spoilOne spoils a predicate somewhere in another one, which may be itself.
func (d drawer) spoilOne(p *pred.Pred) {
	for len(p.Kids) > 0 && d.IntN(3) > 0 {
		p = &p.Kids[d.IntN(len(p.Kids))]
	}
	l := spoilt()
	*p = l[d.IntN(len(l))]
}

func TestDrawnSpoiltOnes(t *testing.T) { // P14.1, P14.2, P14.3
	d := newDrawer(2)
	for range 5000 {
		p, w := d.pred(d.IntN(6)), d.world()
		d.spoilOne(&p)
		got, e := p.Inward()
		wantError(t, "Inward", got, e, api.ErrForm)
		got, e = p.Put("x", d.term())
		wantError(t, "Put", got, e, api.ErrForm)
		got, e = d.pred(2).Set("p", p)
		wantError(t, "Set", got, e, api.ErrForm)
		got, e = p.Set("none", d.pred(2))
		wantError(t, "Set", got, e, api.ErrForm)
		if yes, e := p.Eval(w.maps()); e != api.ErrForm || yes {
			t.Error(yes, e)
		}
		p.Names()
		if p.Right() || pred.All(p).Right() || pred.Deny(p).Right() || len(p.String()) > 1000000 {
			t.Error("right:", p)
		}
		if t.Failed() {
			t.FailNow()
		}
	}
}

// number and truth draw expressions; of a few some part is of the other base, has no term, or is no formula.
func (d drawer) number(room int) ast.Expr {
	if d.IntN(60) == 0 {
		return d.truth(room - 1)
	}
	if room <= 0 {
		switch d.IntN(6) {
		case 0, 1:
			return lit(d.IntN(4))
		case 2:
			return res
		}
		return name(d.one("a", "b", "x"))
	}
	switch d.IntN(16) {
	case 0:
		return op(ast.Neg, d.number(room-1))
	case 1:
		return op(ast.Mul+d.IntN(3), d.number(room-1), d.number(room-1))
	case 2, 3:
		return op(ast.Mul, lit(d.IntN(3)), d.number(room-1))
	}
	return op(ast.Add+d.IntN(2), d.number(d.IntN(room)), d.number(room-1))
}

func (d drawer) truth(room int) ast.Expr {
	if n := d.IntN(400); n < 6 {
		return d.number(room - 1)
	} else if n < 12 {
		return op(d.IntN(26), d.truth(room-1), d.truth(room-1))
	}
	if room <= 0 {
		switch d.IntN(5) {
		case 0:
			return ast.Expr{Op: ast.Truth, Yes: d.IntN(2) == 0}
		case 1:
			return name("t")
		}
		return name(d.one("p", "q"))
	}
	switch d.IntN(8) {
	case 0:
		return op(ast.Not, d.truth(room-1))
	case 1, 2:
		return op(ast.And+d.IntN(3), d.truth(d.IntN(room)), d.truth(room-1))
	case 3:
		return op(ast.And+d.IntN(3), d.truth(room-1), d.truth(d.IntN(room)))
	case 4:
		return op(ast.Eq+d.IntN(2), d.truth(d.IntN(room)), d.truth(room-1))
	}
	return op(ast.Eq+d.IntN(6), d.number(d.IntN(room)), d.number(d.IntN(room)))
}

// great puts an expression into some Eqs, each of which has its kids twice.
func (d drawer) great(e ast.Expr) ast.Expr {
	for range 3 + d.IntN(9) {
		kids := []ast.Expr{e, d.truth(d.IntN(2))}
		if d.IntN(2) == 0 {
			slices.Reverse(kids)
		}
		e = op(ast.Eq+d.IntN(2), kids...)
	}
	return e
}

// model tells what predicates formulas have by calls in calls, one expression after the other, and each number's term anew.
type model struct{ flags []string }

func (m model) isTruth(e ast.Expr) bool {
	return slices.Contains([]int{ast.Truth, ast.Not, ast.Eq, ast.Ne, ast.Lt, ast.Le, ast.Gt, ast.Ge, ast.And, ast.Or, ast.Imp}, e.Op) || e.Op == ast.Var && slices.Contains(m.flags, e.Name) || e.Op == ast.Res && slices.Contains(m.flags, "res")
}

func (m model) number(e ast.Expr) api.Errno {
	if m.isTruth(e) {
		return api.ErrType
	}
	for _, kid := range e.Kids {
		if bad := m.number(kid); bad != api.OK {
			return bad
		}
	}
	_, bad := term.Of(e)
	return bad
}

// text is that of an expression's predicate where a truth must be.
func (m model) text(e ast.Expr) (string, api.Errno) {
	s, bad := m.textOfAny(e)
	if bad == api.OK && len(s) > api.MaxAtoms && sizeOf(made(s)) > api.MaxAtoms {
		return "", api.ErrFull
	}
	return s, bad
}

// textOfAny is likewise, of one that may be too great, but with no kid that is.
func (m model) textOfAny(e ast.Expr) (string, api.Errno) {
	if !m.isTruth(e) {
		return "", api.ErrType
	}
	one := term.Num(zed.From(1))
	if e.Op >= ast.Lt && e.Op <= ast.Ge || (e.Op == ast.Eq || e.Op == ast.Ne) && !m.isTruth(e.Kids[0]) {
		for _, kid := range e.Kids {
			if bad := m.number(kid); bad != api.OK {
				return "", bad
			}
		}
		a, _ := term.Of(e.Kids[0])
		b, _ := term.Of(e.Kids[1])
		ab, ba := a.Minus(b), b.Minus(a)
		return map[int]string{ast.Lt: "(" + ab.Plus(one).String() + "<=0)", ast.Le: "(" + ab.String() + "<=0)", ast.Gt: "(" + ba.Plus(one).String() + "<=0)", ast.Ge: "(" + ba.String() + "<=0)", ast.Eq: "(" + ab.String() + "=0)", ast.Ne: "!(" + ab.String() + "=0)"}[e.Op], api.OK
	}
	kids := []string{"", ""}
	for i, kid := range e.Kids {
		var bad api.Errno
		kids[i], bad = m.text(kid)
		if bad != api.OK {
			return "", bad
		}
	}
	truth, same := "F", "&(|(!"+kids[0]+","+kids[1]+"),|(!"+kids[1]+","+kids[0]+"))"
	if e.Yes {
		truth = "T"
	}
	return map[int]string{ast.Truth: truth, ast.Var: "?" + e.Name, ast.Res: "?res", ast.Not: "!" + kids[0], ast.And: "&(" + kids[0] + "," + kids[1] + ")", ast.Or: "|(" + kids[0] + "," + kids[1] + ")", ast.Imp: "|(!" + kids[0] + "," + kids[1] + ")", ast.Eq: same, ast.Ne: "!" + same}[e.Op], api.OK
}

// of is the number, or 1 or 0 for the truth, that an expression with neither Div nor Mod is in a world.
func (w world) of(e ast.Expr) int {
	kids := []int{0, 0}
	for i, kid := range e.Kids {
		kids[i] = w.of(kid)
	}
	a, b := kids[0], kids[1]
	count := func(yes bool) int { return map[bool]int{true: 1}[yes] }
	switch e.Op {
	case ast.Lit:
		n, _ := e.Num.Small()
		return n
	case ast.Var, ast.Res:
		name := e.Name + map[int]string{ast.Res: "res"}[e.Op]
		if yes, has := w.flags[name]; has {
			return count(yes)
		}
		return w.values[name]
	}
	return map[int]int{ast.Truth: count(e.Yes), ast.Neg: -a, ast.Not: 1 - a, ast.Add: a + b, ast.Sub: a - b, ast.Mul: a * b, ast.Eq: count(a == b), ast.Ne: count(a != b), ast.Lt: count(a < b), ast.Le: count(a <= b), ast.Gt: count(a > b), ast.Ge: count(a >= b), ast.And: a * b, ast.Or: max(a, b), ast.Imp: max(1-a, b)}[e.Op]
}

func TestDrawnExpressions(t *testing.T) { // P14.4
	d := newDrawer(3)
	seen := map[api.Errno]int{}
	for range 30000 {
		e := d.truth(d.IntN(7))
		if d.IntN(10) == 0 {
			e = op(ast.And+d.IntN(3), d.great(e), d.truth(d.IntN(5)))
		}
		flags := []string{"p", "q", "t"}
		if d.IntN(6) == 0 {
			flags = append(flags, "res")
		}
		is, want := "", api.ErrForm
		if _, bad := show.Formula(e); bad == api.OK {
			is, want = model{flags}.text(e)
		}
		got, err := pred.Of(e, bag.Of(flags...))
		seen[err]++
		if want != api.OK {
			wantError(t, e.Dump(), got, err, want)
		} else if err != api.OK || got.String() != is || !got.Right() {
			t.Errorf("%s: got %s and error %d, want %s", e.Dump(), got, err, is)
		} else {
			d.holdsWhereTrue(t, e, got, flags)
		}
		if t.Failed() {
			t.FailNow()
		}
	}
	for _, e := range []api.Errno{api.OK, api.ErrForm, api.ErrType, api.ErrLinear, api.ErrFull} {
		if seen[e] < 300 {
			t.Error("too few with error", e, ":", seen)
		}
	}
	t.Log(seen)
}

// holdsWhereTrue holds a predicate against what its expression is.
func (d drawer) holdsWhereTrue(t *testing.T, e ast.Expr, p pred.Pred, flags []string) {
	t.Helper()
	for range 3 {
		w := world{map[string]int{}, map[string]bool{}}
		for _, name := range flags {
			w.flags[name] = d.IntN(2) == 0
		}
		for _, name := range []string{"a", "b", "x", "res"} {
			if !slices.Contains(flags, name) {
				w.values[name] = d.IntN(9) - 4
			}
		}
		if yes, err := p.Eval(w.maps()); err != api.OK || yes != (w.of(e) == 1) {
			t.Fatalf("%s with %v: %t and error %d", e.Dump(), w, yes, err)
		}
	}
}
