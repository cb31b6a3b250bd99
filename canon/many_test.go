package canon_test

import (
	"maps"
	"math/rand/v2"
	"slices"
	"strconv"
	"strings"
	"testing"

	"touchstone/api"
	"touchstone/bag"
	"touchstone/canon"
	"touchstone/pred"
	"touchstone/term"
	"touchstone/zed"
)

// drawer draws by chance.
type drawer struct {
	*rand.Rand
	numbers, flags []string
}

// newDrawer has the result among its numbers or among its flags.
func newDrawer(seed uint64) drawer {
	d := drawer{rand.New(rand.NewPCG(seed, 15)), []string{"x", "y"}, []string{"p", "q", "r"}}
	if seed%2 == 0 {
		d.numbers = append(d.numbers, "res")
	} else {
		d.flags = append(d.flags, "res")
	}
	return d
}

func (d drawer) one(l []string) string { return l[d.IntN(len(l))] }

// term has few names, and mostly small numbers.
func (d drawer) term() term.Term {
	out := term.Num(zed.From(d.IntN(9) - 4))
	for range d.IntN(4) {
		out = out.Plus(term.Name(d.one(d.numbers)).Times(zed.From(d.IntN(13) - 6)))
	}
	return out
}

func (d drawer) pred(room int) pred.Pred {
	if room <= 0 || d.IntN(5) == 0 {
		switch d.IntN(8) {
		case 0:
			return pred.Pred{Kind: pred.Yes + d.IntN(2)}
		case 1, 2:
			return atMost(d.term())
		case 3, 4:
			return zero(d.term())
		}
		return flag(d.one(d.flags))
	}
	if d.IntN(4) == 0 {
		return pred.Deny(d.pred(room - 1))
	}
	out := pred.Pred{Kind: pred.And + d.IntN(2)}
	for range d.IntN(4) {
		out.Kids = append(out.Kids, d.pred(room-1-d.IntN(2)))
	}
	return out
}

// quotient is n by d, rounded down.
func quotient(n, d int) int {
	q := n / d
	if n%d < 0 {
		q--
	}
	return q
}

// termModel is a term of small numbers as text, after all factors are divided by their greatest common divisor, which is told, and the rest rounded up.
func termModel(t term.Term, turned bool) (text string, common int, exact bool) {
	factors, rest := map[string]int{}, 0
	rest, _ = t.Rest().Small()
	for _, name := range t.Names() {
		factors[name], _ = t.Factor(name).Small()
		a, b := common, max(factors[name], -factors[name])
		for b != 0 {
			a, b = b, a%b
		}
		common = a
	}
	names := slices.Sorted(maps.Keys(factors))
	by := max(common, 1)
	up := -quotient(-rest, by)
	if turned && len(names) > 0 && factors[names[0]] < 0 {
		up, by = -up, -by
	}
	for _, name := range names {
		text += strconv.Itoa(factors[name]/by) + "*" + name + "+"
	}
	return text + strconv.Itoa(up), common, rest%by == 0
}

// model is the text of a predicate's normal form, or of its Not's, made of texts alone.
func model(p pred.Pred, denied bool) string {
	t := p.Term
	if denied && (p.Kind == pred.Le || p.Kind == pred.Eq) {
		one := term.Num(zed.From(1))
		above := model(atMost(one.Minus(t)), false)
		if p.Kind == pred.Le {
			return above
		}
		return listModel("|", above, model(atMost(t.Plus(one)), false))
	}
	switch p.Kind {
	case pred.Yes, pred.No:
		return map[bool]string{true: "T", false: "F"}[(p.Kind == pred.Yes) != denied]
	case pred.Le:
		text, common, _ := termModel(t, false)
		if common == 0 {
			return map[bool]string{true: "T", false: "F"}[t.Rest().Sign() <= 0]
		}
		return "(" + text + "<=0)"
	case pred.Eq:
		text, common, exact := termModel(t, true)
		if common == 0 || !exact {
			return map[bool]string{true: "T", false: "F"}[text == "0"]
		}
		return "(" + text + "=0)"
	case pred.Flag:
		return map[bool]string{true: "!?", false: "?"}[denied] + p.Name
	case pred.Not:
		return model(p.Kids[0], !denied)
	}
	var kids []string
	for _, kid := range p.Kids {
		kids = append(kids, model(kid, denied))
	}
	return listModel(map[bool]string{true: "&", false: "|"}[(p.Kind == pred.And) != denied], kids...)
}

// listModel is the text of the normal form of an And or Or of some in theirs.
func listModel(sign string, kids ...string) string {
	idle, settles := "T", "F"
	if sign == "|" {
		idle, settles = "F", "T"
	}
	all := map[string]int{}
	for _, kid := range kids {
		if kid[:1] != sign {
			all[kid]++
			continue
		}
		for _, inner := range made(kid).Kids {
			all[inner.String()]++
		}
	}
	delete(all, idle)
	for kid := range all {
		if kid == settles || all["!"+kid] > 0 && kid[0] == '?' {
			return settles
		}
	}
	sorted := slices.Sorted(maps.Keys(all))
	switch len(sorted) {
	case 0:
		return idle
	case 1:
		return sorted[0]
	}
	return sign + "(" + strings.Join(sorted, ",") + ")"
}

// formula is the text of a predicate's expression, with more parentheses than are needed.
func formula(p pred.Pred) string {
	var kids []string
	for _, kid := range p.Kids {
		kids = append(kids, "("+formula(kid)+")")
	}
	none, sign := "true", "&&"
	switch p.Kind {
	case pred.Yes, pred.No:
		return strconv.FormatBool(p.Kind == pred.Yes)
	case pred.Le:
		return sides(p.Term, "<=")
	case pred.Eq:
		return sides(p.Term, "=")
	case pred.Flag:
		return p.Name
	case pred.Not:
		return "not " + kids[0]
	case pred.Or:
		none, sign = "false", "||"
	}
	if len(kids) == 0 {
		return none
	}
	return strings.Join(kids, sign)
}

func sides(t term.Term, sign string) string {
	var first, second []string
	put := func(n zed.Int, behind string) {
		text := n.Abs().String() + behind
		if behind != "" {
			text = strings.TrimPrefix(text, "1*")
		}
		switch n.Sign() {
		case 1:
			first = append(first, text)
		case -1:
			second = append(second, text)
		}
	}
	for _, name := range t.Names() {
		put(t.Factor(name), "*"+name)
	}
	put(t.Rest(), "")
	text := strings.Join(first, "+") + sign + strings.Join(second, "+")
	if len(first) == 0 {
		text = "0" + text
	}
	if len(second) == 0 {
		text += "0"
	}
	return text
}

// world draws values for all names.
func (d drawer) world() (*bag.Map[string, zed.Int], *bag.Map[string, bool]) {
	values, flags := bag.NewMap[string, zed.Int](), bag.NewMap[string, bool]()
	for _, name := range d.numbers {
		values.Put(name, zed.From(d.IntN(9)-4))
	}
	for _, name := range d.flags {
		flags.Put(name, d.IntN(2) == 0)
	}
	return values, flags
}

// other is a predicate with the same normal form: kids change their places, some stand twice, or in lists and Nots of Nots of their own.
func (d drawer) other(p pred.Pred) pred.Pred {
	out := p
	out.Kids = nil
	for _, kid := range p.Kids {
		out.Kids = append(out.Kids, d.other(kid))
	}
	if p.Kind == pred.And || p.Kind == pred.Or {
		d.Shuffle(len(out.Kids), func(i, j int) { out.Kids[i], out.Kids[j] = out.Kids[j], out.Kids[i] })
		if len(p.Kids) > 0 && d.IntN(4) == 0 {
			out.Kids = append(out.Kids, d.other(p.Kids[d.IntN(len(p.Kids))]))
		}
	}
	switch d.IntN(12) {
	case 0:
		return pred.Deny(pred.Deny(out))
	case 1:
		return pred.All(out, pred.All())
	case 2:
		return pred.Any(pred.Any(), out)
	case 3:
		return pred.All(pred.Any(out))
	case 4:
		return pred.Any(pred.All(out, pred.Any(pred.Any(), out)))
	}
	if (p.Kind == pred.Le || p.Kind == pred.Eq) && d.IntN(3) == 0 {
		out.Term = p.Term.Times(zed.From(1 + d.IntN(5)))
	}
	return out
}

func TestDrawnPreds(t *testing.T) { // P15.1, P15.2, P15.3
	changed := 0
	for seed := range uint64(4) {
		d := newDrawer(seed)
		for range 4000 {
			p := d.pred(d.IntN(6))
			text := model(p, false)
			got, e := canon.Normal(p)
			want(t, p.String(), got, e, text)
			again, e := canon.Normal(got)
			want(t, p.String()+" again", again, e, text)
			for range 4 {
				values, flags := d.world()
				yes, bad := p.Eval(values, flags)
				if now, e := got.Eval(values, flags); now != yes || e != api.OK || bad != api.OK {
					t.Errorf("%s: %t, then %s: %t", p, yes, got, now)
				}
			}
			d.holdsOthers(t, p, got)
			d.holdsText(t, p, got)
			if t.Failed() {
				t.FailNow()
			}
			if len(got.Kids) > 1 && text != p.String() {
				changed++
			}
		}
	}
	if changed < 2000 {
		t.Error("too few of many kids:", changed)
	}
}

// holdsOthers holds that of one normal form are just those whose normal forms are the same.
func (d drawer) holdsOthers(t *testing.T, p, normal pred.Pred) {
	t.Helper()
	other := d.other(p)
	if !other.Right() {
		return
	}
	got, e := canon.Normal(other)
	want(t, other.String(), got, e, normal.String())
	if yes, e := canon.Same(p, other); !yes || e != api.OK {
		t.Errorf("%s and %s: %t and error %d", p, other, yes, e)
	}
	other = d.pred(d.IntN(3))
	if yes, e := canon.Same(p, other); yes != (model(other, false) == normal.String()) || e != api.OK {
		t.Errorf("%s and %s: %t and error %d", p, other, yes, e)
	}
}

// holdsText holds a predicate's expression, and that what is shown is read as its normal form.
func (d drawer) holdsText(t *testing.T, p, normal pred.Pred) {
	t.Helper()
	for _, one := range []pred.Pred{p, normal} {
		x, e := canon.Expr(one)
		if want := formulaOf(t, formula(one)); e != api.OK || x.Dump() != want.Dump() {
			t.Errorf("%s: %s and error %d, want %s", one, x.Dump(), e, want.Dump())
		}
		// An expression has the normal form of what it is of.
		back, e := pred.Of(x, bag.Of(d.flags...))
		if same, bad := canon.Same(back, p); !same || e != api.OK || bad != api.OK {
			t.Errorf("%s: %s of %s, errors %d and %d", one, back, x.Dump(), e, bad)
		}
	}
	text, e := canon.Show(p)
	if e != api.OK || formulaOf(t, text).Dump() != formulaOf(t, formula(normal)).Dump() {
		t.Errorf("%s: %q and error %d", p, text, e)
	}
	read, e := canon.Read(text, bag.Of(d.flags...))
	want(t, text, read, e, normal.String())
}
