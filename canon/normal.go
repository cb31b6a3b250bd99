package canon

import (
	"slices"
	"strings"

	"touchstone/api"
	"touchstone/bag"
	"touchstone/pred"
	"touchstone/term"
)

// form is a predicate in its normal form, and the texts of its kids: these may come to stand in the place of it, and then their texts aren't made again.
type form struct {
	pred.Pred
	texts []string
}

// part is what stands in an And or Or, and its text.
type part struct {
	form
	text string
}

// formOf is that of a predicate that is pushed inwards.
func formOf(p pred.Pred) form {
	switch p.Kind {
	case pred.Le:
		return form{Pred: atMost(p.Term)}
	case pred.Eq:
		return form{Pred: zero(p.Term)}
	case pred.And, pred.Or:
		return list(p.Kind, parts(p))
	}
	return form{Pred: p}
}

// atMost says that a term is at most 0.
func atMost(t term.Term) pred.Pred {
	common := t.Common()
	if common.Sign() == 0 {
		return constant(t.Rest().Sign() <= 0)
	}
	_, over, _ := t.Rest().DivMod(common)
	if over.Sign() > 0 {
		t = t.Plus(term.Num(common.Sub(over)))
	}
	t, _ = t.Divide(common)
	return pred.Pred{Kind: pred.Le, Term: t}
}

// zero says that a term is 0.
func zero(t term.Term) pred.Pred {
	common := t.Common()
	if common.Sign() == 0 {
		return constant(t.Rest().Sign() == 0)
	}
	if t.Factor(t.Names()[0]).Sign() < 0 {
		common = common.Neg()
	}
	t, bad := t.Divide(common)
	if bad != api.OK {
		return constant(false)
	}
	return pred.Pred{Kind: pred.Eq, Term: t}
}

// constant says what holds always, or never.
func constant(yes bool) pred.Pred {
	if yes {
		return pred.Pred{Kind: pred.Yes}
	}
	return pred.Pred{Kind: pred.No}
}

// parts are what stands in an And or Or whose kids are in their normal form, with those of its own kind replaced by their kids.
func parts(p pred.Pred) []part {
	var out []part
	for _, kid := range p.Kids {
		f := formOf(kid)
		if f.Kind != p.Kind {
			out = append(out, part{form: f, text: textOf(f)})
			continue
		}
		// These are at least two that aren't the same, so none of them is left alone and in its turn replaced: the texts of their kids aren't needed any more.
		for i, inner := range f.Kids {
			out = append(out, part{form: form{Pred: inner}, text: f.texts[i]})
		}
	}
	return out
}

// textOf is a form's text. It is made of those of its kids, as each that is far down would be told once for each depth.
func textOf(f form) string {
	switch f.Kind {
	case pred.And:
		return "&(" + strings.Join(f.texts, ",") + ")"
	case pred.Or:
		return "|(" + strings.Join(f.texts, ",") + ")"
	}
	return f.String()
}

// list is the And or Or of parts, none of which is of that kind.
func list(kind int, l []part) form {
	// A kid that is idle says nothing in it; one that settles says all.
	idle, settles := constant(kind == pred.And), constant(kind == pred.Or)
	if opposed(l) || slices.ContainsFunc(l, func(p part) bool { return p.Kind == settles.Kind }) {
		return form{Pred: settles}
	}
	l = slices.DeleteFunc(l, func(p part) bool { return p.Kind == idle.Kind })
	slices.SortFunc(l, compareParts)
	l = slices.CompactFunc(l, func(a, b part) bool { return compareParts(a, b) == 0 })
	switch len(l) {
	case 0:
		return form{Pred: idle}
	case 1:
		return l[0].form
	}
	out := form{Pred: pred.Pred{Kind: kind}}
	for _, p := range l {
		out.Kids = append(out.Kids, p.Pred)
		out.texts = append(out.texts, p.text)
	}
	return out
}

// opposed tells whether a flag and its Not are among parts.
func opposed(l []part) bool {
	var flags, denied []string
	for _, p := range l {
		switch p.Kind {
		case pred.Flag:
			flags = append(flags, p.Name)
		case pred.Not:
			denied = append(denied, p.Kids[0].Name)
		}
	}
	return bag.Of(flags...).Both(bag.Of(denied...)).Len() > 0
}
