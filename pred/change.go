package pred

import (
	"slices"

	"touchstone/api"
	"touchstone/bag"
	"touchstone/term"
	"touchstone/zed"
)

// Inward pushes inwards.
func (p Pred) Inward() (Pred, api.Errno) {
	if !p.Right() {
		return Pred{}, api.ErrForm
	}
	return pushed(&p).told()
}

// push is a predicate that is to be pushed inwards, whether it is its Not that is, and where what comes of that stands.
type push struct {
	from, to *Pred
	denied   bool
}

func pushed(p *Pred) Pred {
	var out Pred
	todo := []push{{from: p, to: &out}}
	for len(todo) > 0 {
		next := todo[len(todo)-1]
		todo = todo[:len(todo)-1]
		for next.from.Kind == Not {
			next.from, next.denied = &next.from.Kids[0], !next.denied
		}
		*next.to = *next.from
		if next.denied {
			*next.to = next.from.opposite()
		}
		if !next.from.isList() {
			continue
		}
		next.to.Kids = make([]Pred, len(next.from.Kids))
		for i := range next.from.Kids {
			todo = append(todo, push{from: &next.from.Kids[i], to: &next.to.Kids[i], denied: next.denied})
		}
	}
	return out
}

// opposite is the Not, pushed inwards, of a predicate that is none itself; of an And or Or without its kids.
func (p *Pred) opposite() Pred {
	switch p.Kind {
	case Yes:
		return Pred{Kind: No}
	case No:
		return Pred{Kind: Yes}
	case Le:
		return above(p.Term)
	case Eq:
		return Any(atMost(p.Term.Plus(one())), above(p.Term))
	case And:
		return Pred{Kind: Or}
	case Or:
		return Pred{Kind: And}
	}
	return Deny(*p)
}

// atMost says that a term is at most 0.
func atMost(t term.Term) Pred { return Pred{Kind: Le, Term: t} }

// above says that a term is more than 0.
func above(t term.Term) Pred { return atMost(one().Minus(t)) }

func one() term.Term { return term.Num(zed.From(1)) }

// Put puts a term in a name's place.
func (p Pred) Put(name string, t term.Term) (Pred, api.Errno) {
	if !p.Right() {
		return Pred{}, api.ErrForm
	}
	return p.rebuilt(func(at Pred) Pred {
		at.Term = at.Term.Put(name, t)
		return at
	}), api.OK
}

// Set puts a predicate in a flag's place.
func (p Pred) Set(flag string, q Pred) (Pred, api.Errno) {
	if !p.Right() || !q.Right() {
		return Pred{}, api.ErrForm
	}
	return p.rebuilt(func(at Pred) Pred {
		if at.Kind == Flag && at.Name == flag {
			return q
		}
		return at
	}).told()
}

// Eval tells whether a predicate holds. All in it are asked, as each name must have a value, whatever the others have.
func (p Pred) Eval(values *bag.Map[string, zed.Int], flags *bag.Map[string, bool]) (bool, api.Errno) {
	if !p.Right() {
		return false, api.ErrForm
	}
	named := true
	holds := fold(&p, func(at *Pred, kids []bool) bool {
		switch at.Kind {
		case Le, Eq:
			n, bad := at.Term.Eval(values)
			named = named && bad == api.OK
			return n.Sign() == 0 || at.Kind == Le && n.Sign() < 0
		case Flag:
			yes, has := flags.Get(at.Name)
			named = named && has
			return yes
		case Not:
			return !kids[0]
		case And:
			return !slices.Contains(kids, false)
		case Or:
			return slices.Contains(kids, true)
		}
		return at.Kind == Yes
	})
	if !named {
		return false, api.ErrName
	}
	return holds, api.OK
}
