package pred

import (
	"strings"

	"touchstone/api"
)

// place is a predicate that is gone through, its kids that are, too, and how many of these are begun.
type place struct {
	at   *Pred
	kids []Pred
	done int
}

// walk goes through p and what is in it, from the left, by those kids that kidsOf tells. Each predicate is told ahead of each of them, and behind the last one, with how many are done, until tell answers false. It tells whether all was gone through. The path down to what is told is a list, as a predicate may be deeper than calls may.
func walk(p *Pred, kidsOf func(at *Pred) []Pred, tell func(at *Pred, done int) bool) bool {
	path := []place{{at: p, kids: kidsOf(p)}}
	for len(path) > 0 {
		last := &path[len(path)-1]
		if !tell(last.at, last.done) {
			return false
		}
		if last.done == len(last.kids) {
			path = path[:len(path)-1]
			continue
		}
		kid := &last.kids[last.done]
		last.done++
		// A list of kids may have itself inside, and then it has no end: who goes down there finds, sooner or later, at twice a depth what was at that depth.
		if kid == path[len(path)/2].at {
			return false
		}
		path = append(path, place{at: kid, kids: kidsOf(kid)})
	}
	return true
}

// all are all kids, whatever the kind.
func all(p *Pred) []Pred { return p.Kids }

// fold asks each predicate in p, and p last, with what came of its kids, and tells what came of p; nothing, if p has no end. The list of what came of kids is theirs only while they are asked.
func fold[T any](p *Pred, ask func(at *Pred, kids []T) T) T {
	var came []T
	whole := walk(p, all, func(at *Pred, done int) bool {
		if done == len(at.Kids) {
			first := len(came) - done
			answer := ask(at, came[first:])
			came = append(came[:first], answer)
		}
		return true
	})
	if !whole {
		var none T
		return none
	}
	return came[0]
}

// rebuilt is p in memory of its own, with what change makes of each predicate in the place of that, from the innermost on. What change puts in is taken as it is.
func (p Pred) rebuilt(change func(at Pred) Pred) Pred {
	return fold(&p, func(at *Pred, kids []Pred) Pred {
		out := *at
		out.Name = strings.Clone(at.Name)
		out.Kids = append([]Pred(nil), kids...)
		return change(out)
	})
}

// own is p in memory of its own.
func (p Pred) own() Pred {
	return p.rebuilt(func(at Pred) Pred { return at })
}

// told is a predicate made of right ones, in memory of its own, if it isn't too great. It is asked first, as parts that stand in many places may make a great one of little memory.
func (p Pred) told() (Pred, api.Errno) {
	if !p.Right() {
		return Pred{}, api.ErrFull
	}
	return p.own(), api.OK
}
