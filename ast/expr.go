package ast

import (
	"strconv"
	"strings"

	"touchstone/bag"
)

// place is an expression that is gone through, and how many of its kids are begun.
type place struct {
	at   *Expr
	done int
}

// walk goes through e and all that is in it, from the left. Each expression is told ahead of each of its kids, and behind the last one, with how many of its kids are done. What is around is a list, as an expression may be deeper than calls may.
func walk(e *Expr, tell func(at *Expr, done int)) {
	around := []place{{at: e}}
	for len(around) > 0 {
		last := &around[len(around)-1]
		tell(last.at, last.done)
		if last.done == len(last.at.Kids) {
			around = around[:len(around)-1]
			continue
		}
		kid := &last.at.Kids[last.done]
		last.done++
		around = append(around, place{at: kid})
	}
}

// Dump is an expression's dump.
func (e Expr) Dump() string {
	var out strings.Builder
	walk(&e, func(at *Expr, done int) {
		if done == 0 {
			out.WriteString(at.opening())
		}
		if done == len(at.Kids) {
			out.WriteString("]")
		} else {
			out.WriteString(" ")
		}
	})
	return out.String()
}

// opening is what an expression's dump begins with, ahead of its kids.
func (e *Expr) opening() string {
	out := "[" + strconv.Itoa(e.Op)
	switch {
	case e.Module != "":
		out += " " + e.Module + "." + e.Name
	case e.Name != "":
		out += " " + e.Name
	}
	switch e.Op {
	case Lit:
		out += " " + e.Num.String()
	case Truth:
		out += " " + strconv.FormatBool(e.Yes)
	}
	return out
}

// Size is how many expressions there are.
func (e Expr) Size() int {
	n := 0
	walk(&e, func(_ *Expr, done int) {
		if done == 0 {
			n++
		}
	})
	return n
}

// Free are the free names, rising.
func (e Expr) Free() []string {
	var free []string
	// By names, how many of the Lets around name them.
	bound := map[string]int{}
	walk(&e, func(at *Expr, done int) {
		switch {
		case at.Op == Var && done == 0 && bound[at.Name] == 0:
			free = append(free, strings.Clone(at.Name))
		case at.Op == Let && done == 1 && len(at.Kids) > 1:
			bound[at.Name]++
		case at.Op == Let && done == 2:
			bound[at.Name]--
		}
	})
	return bag.Of(free...).Items()
}

// own is the same expression, in memory of its own.
func (e Expr) own() Expr {
	todo := []*Expr{&e}
	for len(todo) > 0 {
		at := todo[len(todo)-1]
		todo = todo[:len(todo)-1]
		at.Name, at.Module = strings.Clone(at.Name), strings.Clone(at.Module)
		at.Kids = append([]Expr(nil), at.Kids...)
		for i := range at.Kids {
			todo = append(todo, &at.Kids[i])
		}
	}
	return e
}
