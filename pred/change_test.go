package pred_test

import (
	"runtime/debug"
	"slices"
	"strings"
	"testing"

	"touchstone/api"
	"touchstone/bag"
	"touchstone/pred"
	"touchstone/term"
	"touchstone/zed"
)

func TestInward(t *testing.T) { // P14.2
	for s, text := range map[string]string{
		// Without a Not it stays.
		"T": "T", "F": "F", "(2*x+3<=0)": "(2*x+3<=0)", "(2*x+3=0)": "(2*x+3=0)", "?p": "?p", "&()": "&()", "|()": "|()", "&(T,|(F,?p),&(&()))": "&(T,|(F,?p),&(&()))",
		// The Not of each kind.
		"!T": "F", "!F": "T", "!?p": "!?p", "!&()": "|()", "!|()": "&()",
		"!(1*x+0<=0)": "(-1*x+1<=0)", "!(2*x+-3*y+-5<=0)": "(-2*x+3*y+6<=0)", "!(0<=0)": "(1<=0)", "!(7<=0)": "(-6<=0)",
		"!(1*x+0=0)": "|((1*x+1<=0),(-1*x+1<=0))", "!(2*x+-3*y+-5=0)": "|((2*x+-3*y+-4<=0),(-2*x+3*y+6<=0))", "!(0=0)": "|((1<=0),(1<=0))", "!(7=0)": "|((8<=0),(-6<=0))",
		"!&(?p)": "|(!?p)", "!|(?p)": "&(!?p)", "!&(?p,T,!?q)": "|(!?p,F,?q)", "!|(F,?p,(1*x+0<=0))": "&(T,!?p,(-1*x+1<=0))",
		// Nots of Nots.
		"!!T": "T", "!!!T": "F", "!!?p": "?p", "!!!?p": "!?p", "!!!!?p": "?p", "!!(1*x+0=0)": "(1*x+0=0)", "!!!(1*x+0<=0)": "(-1*x+1<=0)", "!!&(?p,!!?q)": "&(?p,?q)", "!!!&(?p,!!?q)": "|(!?p,!?q)",
		// Further in.
		"&(!?p,!&(!?p,?q))":                          "&(!?p,|(?p,!?q))",
		"!|(&(?p,!(1*x+0=0)),!|((1*y+2<=0),!T))":     "&(|(!?p,(1*x+0=0)),|((1*y+2<=0),F))",
		"|(!&(!(1*x+0=0),T),?p)":                     "|(|((1*x+0=0),F),?p)",
		"!&(&(&(?a,?b),?c),|(|(?d,?e),?f))":          "|(|(|(!?a,!?b),!?c),&(&(!?d,!?e),!?f))",
		"&(T,!&(&(),|()),!|(!&(),!|()))":             "&(T,|(|(),&()),&(&(),|()))",
		"!|(!&((1*x+-1*y+1<=0),|(?p,(1*x+-3=0))),F)": "&(&((1*x+-1*y+1<=0),|(?p,(1*x+-3=0))),T)",
	} {
		got, e := made(s).Inward()
		want(t, s, got, e, text)
	}
	far := strings.Repeat("9", 3000)
	got, e := made("!(" + far + "*x+-1" + strings.Repeat("0", 3000) + "=0)").Inward()
	want(t, "numbers beyond limits", got, e, "|(("+far+"*x+-"+far+"<=0),(-"+far+"*x+1"+strings.Repeat("0", 2999)+"1<=0))")
}

func TestInwardAtTheLimit(t *testing.T) { // P14.2
	n := api.MaxAtoms
	with := func(kind, count int, s string, more ...string) pred.Pred {
		p := pred.Pred{Kind: kind, Kids: repeated(count, s)}
		for _, one := range more {
			p.Kids = append(p.Kids, made(one))
		}
		return p
	}
	not := func(p pred.Pred) pred.Pred { return pred.Pred{Kind: pred.Not, Kids: []pred.Pred{p}} }
	// Of an Eq's Not come three, of a Flag's two, and of others' one.
	for i, p := range []pred.Pred{
		not(with(pred.And, (n-1)/3, "(1*x+0=0)")),
		with(pred.Or, (n-1)/3, "!(1*x+0=0)"),
		not(with(pred.Or, n/2-1, "?p", "T")),
		not(with(pred.And, n-2, "(1*x+0<=0)")),
		with(pred.And, n-1, "(1*x+0=0)"),
		not(not(with(pred.And, n-3, "(1*x+0=0)"))),
		with(pred.And, n/2-1, "!?p", "T"),
		deep(pred.Not, n-1, made("?p")), deep(pred.Not, n-2, made("&()")),
	} {
		got, e := p.Inward()
		if e != api.OK || !got.Right() {
			t.Error(i, e)
		}
	}
	for i, p := range []pred.Pred{
		not(with(pred.And, (n-1)/3, "(1*x+0=0)", "T")),
		not(with(pred.Or, (n-1)/3+1, "(1*x+0=0)")),
		with(pred.Or, (n-1)/3, "!(1*x+0=0)", "F"),
		not(with(pred.And, n/2, "?p")),
		not(with(pred.And, n-2, "(1*x+0=0)")),
		not(with(pred.And, n-2, "?p")),
	} {
		got, e := p.Inward()
		wantError(t, "too many: "+string(rune('0'+i)), got, e, api.ErrFull)
	}
	// What isn't right is told of first.
	got, e := not(with(pred.And, n-3, "(1*x+0=0)", "?")).Inward()
	wantError(t, "both", got, e, api.ErrForm)
}

func TestWrongOnesAreRefused(t *testing.T) { // P14.2, P14.3
	values, flags := bag.NewMap[string, zed.Int](), bag.NewMap[string, bool]()
	full := pred.All(repeated(api.MaxAtoms-1, "?p")...)
	for _, p := range wrong() {
		what := p.String
		if p.Kind == pred.And && len(p.Kids) == 2 {
			// There is too much text in it.
			what = func() string { return "a great one" }
		}
		got, e := p.Inward()
		wantError(t, what()+" inward", got, e, api.ErrForm)
		got, e = p.Put("x", term.Name("y"))
		wantError(t, what()+" put", got, e, api.ErrForm)
		got, e = p.Set("p", made("T"))
		wantError(t, what()+" set", got, e, api.ErrForm)
		got, e = p.Set("none", full)
		wantError(t, what()+" set", got, e, api.ErrForm)
		// Whether it is put in or not.
		got, e = made("T").Set("p", p)
		wantError(t, "set with "+what(), got, e, api.ErrForm)
		got, e = made("&(?p,?p)").Set("p", p)
		wantError(t, "set with "+what(), got, e, api.ErrForm)
		got, e = full.Set("p", p)
		wantError(t, "set with "+what(), got, e, api.ErrForm)
		// ErrForm goes ahead of ErrName.
		if yes, e := p.Eval(values, flags); yes || e != api.ErrForm {
			t.Error(what(), yes, e)
		}
	}
}

func TestPut(t *testing.T) { // P14.2
	for _, l := range [][4]string{
		{"(2*x+1*y+3<=0)", "x", "1*z+-1", "(1*y+2*z+1<=0)"},
		{"(2*x+1*y+3=0)", "x", "1*y+5", "(3*y+13=0)"},
		{"(2*x+1*y+3=0)", "y", "-2*x+0", "(3=0)"},
		{"(2*x+1*y+3=0)", "z", "7", "(2*x+1*y+3=0)"},
		{"(1*x+0<=0)", "x", "2*x+1", "(2*x+1<=0)"},
		{"(1*x+1*y+0<=0)", "x", "1*y+0", "(2*y+0<=0)"},
		{"(7<=0)", "x", "1*y+0", "(7<=0)"},
		// In each term, and nowhere else.
		{"&((1*x+0<=0),|(!(1*x+1*y+0=0),?x),T,F,&(),!?y)", "x", "4", "&((4<=0),|(!(1*y+4=0),?x),T,F,&(),!?y)"},
		{"!!(1*x+0<=0)", "x", "1*res+0", "!!(1*res+0<=0)"},
		{"?x", "x", "1", "?x"}, {"T", "x", "1", "T"}, {"F", "", "1", "F"}, {"&()", "x", "1", "&()"},
		{"(1*res+1*x+0<=0)", "res", "1*x+0", "(2*x+0<=0)"},
	} {
		got, e := made(l[0]).Put(l[1], termOf(l[2]))
		want(t, strings.Join(l[:3], ", "), got, e, l[3])
	}
	many := pred.All(repeated(api.MaxAtoms-1, "(1*x+0=0)")...)
	got, e := many.Put("x", termOf("1*y+1"))
	want(t, "as many as there may be", got, e, strings.ReplaceAll(many.String(), "1*x+0", "1*y+1"))
}

func TestSet(t *testing.T) { // P14.2
	for _, l := range [][4]string{
		{"?p", "p", "T", "T"}, {"?p", "p", "!?q", "!?q"}, {"?p", "q", "T", "?p"}, {"?p", "p", "?p", "?p"}, {"!?p", "p", "!?p", "!!?p"},
		// What is put in is taken as it is.
		{"&(?p,?q)", "p", "&(?p,?q)", "&(&(?p,?q),?q)"},
		{"&(?p,|(!?p,?pp),!&(?p),T)", "p", "(1*x+0=0)", "&((1*x+0=0),|(!(1*x+0=0),?pp),!&((1*x+0=0)),T)"},
		// Names of numbers are others.
		{"|((1*x+0<=0),?x)", "x", "F", "|((1*x+0<=0),F)"},
		{"(1*x+0=0)", "x", "F", "(1*x+0=0)"}, {"T", "p", "F", "T"}, {"&()", "", "F", "&()"}, {"?p", "", "F", "?p"}, {"?res", "res", "|()", "|()"},
	} {
		got, e := made(l[0]).Set(l[1], made(l[2]))
		want(t, strings.Join(l[:3], ", "), got, e, l[3])
	}
}

func TestSetAtTheLimit(t *testing.T) { // P14.2
	n := api.MaxAtoms
	third := pred.Any(repeated((n-1)/3-1, "?p")...)
	got, e := made("&(?p,?p,?p)").Set("p", third)
	want(t, "three thirds", got, e, "&("+third.String()+","+third.String()+","+third.String()+")")
	got, e = made("&(?p,?p,?p,T)").Set("p", third)
	wantError(t, "three thirds and one", got, e, api.ErrFull)
	got, e = made("!&(?p,?p,?p)").Set("p", third)
	wantError(t, "the Not of three thirds", got, e, api.ErrFull)

	full := pred.All(repeated(n-1, "?p")...)
	got, e = made("?p").Set("p", full)
	want(t, "a full one for one", got, e, full.String())
	got, e = made("!?p").Set("p", full)
	wantError(t, "its Not", got, e, api.ErrFull)
	got, e = full.Set("p", made("F"))
	want(t, "one for each of a full one", got, e, strings.ReplaceAll(full.String(), "?p", "F"))
	got, e = full.Set("p", made("!F"))
	wantError(t, "two for each of a full one", got, e, api.ErrFull)
	got, e = full.Set("p", full)
	wantError(t, "full ones for each of a full one", got, e, api.ErrFull)
	got, e = full.Set("q", full)
	want(t, "a full one for none", got, e, full.String())
}

// valuesOf are values by names, of a text such as "x=3 p=true".
func valuesOf(s string) (*bag.Map[string, zed.Int], *bag.Map[string, bool]) {
	values, flags := bag.NewMap[string, zed.Int](), bag.NewMap[string, bool]()
	for _, one := range strings.Fields(s) {
		name, is, _ := strings.Cut(one, "=")
		if is == "true" || is == "false" {
			flags.Put(name, is == "true")
		} else {
			values.Put(name, number(is))
		}
	}
	return values, flags
}

func TestEval(t *testing.T) { // P14.3
	for _, l := range []struct {
		pred, with string
		want       bool
	}{
		{"T", "", true}, {"F", "", false}, {"&()", "", true}, {"|()", "", false}, {"!T", "", false}, {"!F", "", true},
		{"(0<=0)", "", true}, {"(1<=0)", "", false}, {"(-1<=0)", "", true}, {"(0=0)", "", true}, {"(1=0)", "", false}, {"(-1=0)", "", false},
		{"(1*x+0<=0)", "x=0", true}, {"(1*x+0<=0)", "x=1", false}, {"(1*x+0<=0)", "x=-1", true}, {"(1*x+0=0)", "x=0", true}, {"(1*x+0=0)", "x=1", false}, {"(1*x+0=0)", "x=-1", false},
		{"(2*x+-3*y+-5=0)", "x=4 y=1", true}, {"(2*x+-3*y+-5=0)", "x=4 y=2", false}, {"(2*x+-3*y+-5<=0)", "x=4 y=2", true}, {"(2*x+-3*y+-5<=0)", "x=9 y=4", false},
		{"?p", "p=true", true}, {"?p", "p=false", false}, {"!?p", "p=true", false}, {"!!?p", "p=true", true},
		// A name is of a number, of a truth, or both.
		{"&(?x,(1*x+-5=0))", "x=true x=5", true}, {"&(?x,(1*x+-5=0))", "x=false x=5", false}, {"&(?x,(1*x+-5=0))", "x=true x=4", false},
		{"&(T,T)", "", true}, {"&(T,F)", "", false}, {"&(F,T)", "", false}, {"&(T,T,F)", "", false}, {"|(T,F)", "", true}, {"|(F,T)", "", true}, {"|(F,F)", "", false}, {"|(F,F,T)", "", true},
		{"&(|(?p,?q),!&(?p,?q))", "p=true q=false", true}, {"&(|(?p,?q),!&(?p,?q))", "p=true q=true", false}, {"&(|(?p,?q),!&(?p,?q))", "p=false q=false", false},
		{"!|(!&((1*x+-1*y+1<=0),?p),?q)", "x=3 y=4 p=true q=false z=1 r=true", true},
		{"(1" + strings.Repeat("0", 500) + "*x+-1*y+0=0)", "x=7 y=7" + strings.Repeat("0", 500), true}, {"(1" + strings.Repeat("0", 500) + "*x+-1*y+-1=0)", "x=7 y=7" + strings.Repeat("0", 500), false},
	} {
		if got, e := made(l.pred).Eval(valuesOf(l.with)); e != api.OK || got != l.want {
			t.Errorf("%.100s with %.100s: %t and error %d", l.pred, l.with, got, e)
		}
	}
}

func TestEvalWithoutValues(t *testing.T) { // P14.3: each name must have a value, whatever else is known
	for _, l := range [][2]string{
		{"(1*x+0<=0)", ""}, {"(1*x+0=0)", "y=3"}, {"(1*x+1*y+0=0)", "x=0"}, {"(1*x+1*y+0=0)", "y=0"}, {"?p", ""}, {"!?p", "q=true"},
		{"?p", "p=1"}, {"(1*p+0=0)", "p=true"}, {"(1*res+0=0)", "res=true"},
		{"&(F,?p)", ""}, {"&(?p,F)", ""}, {"|(T,?p)", ""}, {"|(?p,T)", ""}, {"|(T,(1*x+0=0))", "p=true"}, {"&(F,(1*x+0<=0))", ""}, {"&(?p,?q)", "p=false"}, {"|(?p,?q)", "q=true"},
		{"!|(T,!&(F,!(1*x+0=0)))", ""}, {"&((1*x+0=0),F,(1*x+1*y+0=0))", "x=0"}, {"&(?p,!?P)", "p=true"},
	} {
		if got, e := made(l[0]).Eval(valuesOf(l[1])); e != api.ErrName || got {
			t.Errorf("%s with %s: %t and error %d", l[0], l[1], got, e)
		}
	}
	values, flags := valuesOf("x=1 p=true")
	made("&((1*x+0<=0),?p)").Eval(values, flags)
	if values.Len() != 1 || flags.Len() != 1 {
		t.Error("changed:", values.Pairs(), flags.Pairs())
	}
}

func TestMemoryOfChangedOnes(t *testing.T) { // P14.2
	long := "alphabeta"
	alpha, beta := pred.Pred{Kind: pred.Flag, Name: long[:5]}, pred.Pred{Kind: pred.Flag, Name: long[5:]}
	p := pred.Pred{Kind: pred.And, Kids: append(make([]pred.Pred, 0, 9), alpha, made("!&((1*x+0=0),!?p,&(T))"), pred.Pred{Kind: pred.Not, Kids: []pred.Pred{beta}}, pred.Pred{Kind: pred.Or, Kids: []pred.Pred{alpha}})}
	q := pred.Pred{Kind: pred.Or, Kids: append(make([]pred.Pred, 0, 9), beta, made("!T"))}
	before, other := p.String(), q.String()
	if before != "&(?alpha,!&((1*x+0=0),!?p,&(T)),!?beta,|(?alpha))" {
		t.Fatal(before)
	}
	calls := map[string]func() (pred.Pred, api.Errno){
		"Inward":            p.Inward,
		"Inward of its Not": pred.Deny(p).Inward,
		"Put":               func() (pred.Pred, api.Errno) { return p.Put("x", term.Name("y")) },
		"Put of none":       func() (pred.Pred, api.Errno) { return p.Put("z", term.Name("y")) },
		"Set":               func() (pred.Pred, api.Errno) { return p.Set("alpha", q) },
		"Set itself":        func() (pred.Pred, api.Errno) { return p.Set("alpha", p) },
		"Set of none":       func() (pred.Pred, api.Errno) { return p.Set("none", q) },
		"Set alone":         func() (pred.Pred, api.Errno) { return alpha.Set("alpha", q) },
	}
	for what, call := range calls {
		got, e := call()
		again, _ := call()
		if e != api.OK {
			t.Fatal(what, e)
		}
		wantAlone(t, what, got, p, q, again)
		for _, l := range room(got) {
			for i := range l {
				l[i] = made("?spoilt")
			}
		}
		if once, e := call(); e != api.OK || !same(once, again) || p.String() != before || q.String() != other || p.Kids[:5][4].Kind != 0 || q.Kids[:3][2].Kind != 0 {
			t.Error(what, "changed", p, "or", q)
		}
	}
	kept, _ := p.Set("alpha", q)
	text := kept.String()
	p.Kids[1], q.Kids[0], q.Kids[1].Kids[0] = made("F"), made("F"), made("F")
	if kept.String() != text || !slices.Equal(strings.Split(text, "|(?beta,!T)"), []string{"&(", ",!&((1*x+0=0),!?p,&(T)),!?beta,|(", "))"}) {
		t.Error("changed with its argument:", kept)
	}
}

func TestDeepestRightOnes(t *testing.T) { // P1, P14.2, P14.3
	defer debug.SetMaxStack(debug.SetMaxStack(1 << 17))
	n := api.MaxAtoms - 1
	values, flags := valuesOf("x=2 p=true")
	for _, kind := range []int{pred.Not, pred.And, pred.Or} {
		p := deep(kind, n, made("?p"))
		got, e := p.Inward()
		text := p.String()
		if kind == pred.Not {
			// n is odd.
			text = "!?p"
		}
		if e != api.OK || got.String() != text {
			t.Error("Inward", kind, e)
		}
		got, e = p.Set("p", made("F"))
		if e != api.OK || got.String() != strings.Replace(p.String(), "?p", "F", 1) {
			t.Error("Set", kind, e)
		}
		got, e = deep(kind, n, made("(1*x+0=0)")).Put("x", termOf("1*y+1"))
		if e != api.OK || got.String() != strings.Replace(p.String(), "?p", "(1*y+1=0)", 1) {
			t.Error("Put", kind, e)
		}
		if yes, e := p.Eval(values, flags); e != api.OK || yes != (kind != pred.Not) {
			t.Error("Eval", kind, yes, e)
		}
	}
}
