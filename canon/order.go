package canon

import (
	"cmp"
	"slices"
	"strings"

	"touchstone/pred"
	"touchstone/term"
)

// compareParts goes by texts. Names may be such that those that aren't the same have one text: then it goes by what they are made of.
func compareParts(a, b part) int {
	if order := strings.Compare(a.text, b.text); order != 0 {
		return order
	}
	return compare(a.Pred, b.Pred)
}

// compare puts predicates in an order in which just those that are the same stand at one place.
func compare(a, b pred.Pred) int {
	return cmp.Or(
		cmp.Compare(a.Kind, b.Kind),
		strings.Compare(a.Name, b.Name),
		compareTerms(a.Term, b.Term),
		slices.CompareFunc(a.Kids, b.Kids, compare),
	)
}

func compareTerms(a, b term.Term) int {
	names := a.Names()
	order := cmp.Or(slices.Compare(names, b.Names()), a.Rest().Cmp(b.Rest()))
	for _, name := range names {
		order = cmp.Or(order, a.Factor(name).Cmp(b.Factor(name)))
	}
	return order
}
