package parse_test

import (
	"slices"
	"strconv"
	"strings"

	"touchstone/api"
	"touchstone/lex"
)

// rules are the chapter's grammar, a rule a line: what it is of, the Kind of its node (0, if it has none of its own), and its parts. A part with ^ ahead is nested by one more. A line with @ stands for two: outside clauses, and in them, with c for @. Of parameters, arguments, definitions and imports those that are one more than may be are the part FULL (whatever stands there), or FULL: and the key that they begin with.
const rules = `
program 1 imports0
importation 2 import WORD ;
def 3 pub fun WORD ( ) typed = ^expression ;
def 3 pub fun WORD ( parameters1 ) typed = ^expression ;
def 3 fun WORD ( ) typed = ^expression ;
def 3 fun WORD ( parameters1 ) typed = ^expression ;
parameter 4 WORD typed
typed 0 : base
typed 0 : base clause
base 5 int
base 5 bool
clause 6 { ^cformula }
expression 7 let WORD = ^expression in ^expression
expression 8 if ^expression then ^expression else ^expression
expression 9 assert ^expression in ^expression
@expression 0 @formula
@formula 0 @disjunction
@formula 10 @disjunction => ^@formula
@disjunction 0 @conjunction
@disjunction 10 @disjunction || @conjunction
@conjunction 0 @negation
@conjunction 10 @conjunction && @negation
@negation 11 not ^@negation
@negation 0 @comparison
@comparison 0 @sum
@comparison 10 @sum = @sum
@comparison 10 @sum <> @sum
@comparison 10 @sum < @sum
@comparison 10 @sum <= @sum
@comparison 10 @sum > @sum
@comparison 10 @sum >= @sum
@sum 0 @product
@sum 10 @sum + @product
@sum 10 @sum - @product
@product 0 @factor
@product 10 @product * @factor
@product 10 @product / @factor
@product 10 @product % @factor
@factor 11 - ^@factor
@factor 0 @atom
@atom 12 ( ^@expression )
@atom 14 WORD
@atom 15 NUMBER
@atom 16 true
@atom 16 false
catom 17 res
atom 13 WORD ( )
atom 13 WORD ( arguments1 )
atom 13 WORD . WORD ( )
atom 13 WORD . WORD ( arguments1 )
alone 18 ^cformula END
`

// limited are the rules of what may be just so many times.
func limited() string {
	out := ""
	line := func(parts ...string) { out += strings.Join(parts, " ") + "\n" }
	for i := range 16 {
		n, next := strconv.Itoa(i), strconv.Itoa(i+1)
		line("imports"+n, "0 importation", "imports"+next)
		line("imports"+n, "0 defs0")
	}
	line("imports16 0 FULL:import")
	line("imports16 0 defs0")
	for i := range 64 {
		n, next := strconv.Itoa(i), strconv.Itoa(i+1)
		line("defs"+n, "0 def", "defs"+next)
		line("defs"+n, "0 END")
	}
	line("defs64 0 FULL:pub")
	line("defs64 0 FULL:fun")
	line("defs64 0 END")
	for i := 1; i <= 8; i++ {
		n, next := strconv.Itoa(i), strconv.Itoa(i+1)
		line("parameters"+n, "0 parameter")
		line("parameters"+n, "0 parameter , parameters"+next)
		line("arguments"+n, "0 ^expression")
		line("arguments"+n, "0 ^expression , arguments"+next)
	}
	line("parameters9 0 FULL")
	line("arguments9 0 FULL")
	return out
}

// part is what a rule has in one place: its name, by how much more it is nested, and the rules of that name, if there are any.
type part struct {
	name   string
	nested int
	rules  []*rule
}

type rule struct {
	of    string
	kind  int
	parts []part
}

// grammar is the rules, by what they are of.
type grammar map[string][]*rule

func newGrammar() grammar {
	g := grammar{}
	for _, line := range strings.Split(rules+limited(), "\n") {
		g.add(strings.ReplaceAll(line, "@", ""))
		if strings.Contains(line, "@") {
			g.add(strings.ReplaceAll(line, "@", "c"))
		}
	}
	for _, l := range g {
		for _, r := range l {
			for i, p := range r.parts {
				r.parts[i].rules = g[p.name]
			}
		}
	}
	return g
}

func (g grammar) add(line string) {
	f := strings.Fields(line)
	if len(f) == 0 {
		return
	}
	kind, err := strconv.Atoi(f[1])
	if err != nil {
		panic(line)
	}
	r := &rule{of: f[0], kind: kind}
	for _, name := range f[2:] {
		bare := strings.TrimPrefix(name, "^")
		r.parts = append(r.parts, part{name: bare, nested: len(name) - len(bare)})
	}
	g[r.of] = append(g[r.of], r)
}

// item is a rule of which some parts are found, from a token on, and the dump of these.
type item struct {
	*rule
	dot, from, nesting int
	dump               string
}

// next is the part that the item goes on with, and its nesting; a part without a name, if there is none.
func (x item) next() (part, int) {
	if x.dot == len(x.parts) {
		return part{}, x.nesting
	}
	return x.parts[x.dot], x.nesting + x.parts[x.dot].nested
}

// after is the item with its next part found.
func (x item) after(dump string) item {
	x.dot++
	x.dump += " " + dump
	return x
}

// begun is a name whose rules are begun at a token, and its nesting.
type begun struct {
	of      string
	nesting int
}

// set is the items at a token, each once, as no text can be read in two ways.
type set struct {
	items []item
	begun []begun
	full  []string
	deep  bool
}

// chart is the sets up to a token: all ways at once in which the tokens ahead can be read.
type chart struct {
	depth int
	sets  []*set
	whole string
}

// newChart is a chart without tokens of what has this name.
func newChart(g grammar, of string, depth int) *chart {
	c := &chart{depth: depth, sets: []*set{{}}}
	for _, r := range g[of] {
		c.sets[0].items = append(c.sets[0].items, item{rule: r})
	}
	c.close()
	return c
}

// close finds all that follows of the last set's items.
func (c *chart) close() {
	s := c.sets[len(c.sets)-1]
	for i := 0; i < len(s.items); i++ {
		x := s.items[i]
		p, nesting := x.next()
		switch {
		case p.name == "":
			c.complete(s, x)
		case strings.HasPrefix(p.name, "FULL"):
			s.full = append(s.full, strings.TrimPrefix(p.name, "FULL"))
		case p.rules != nil && nesting > c.depth:
			s.deep = true
		case !slices.Contains(s.begun, begun{p.name, nesting}):
			s.begun = append(s.begun, begun{p.name, nesting})
			for _, r := range p.rules {
				s.items = append(s.items, item{rule: r, from: len(c.sets) - 1, nesting: nesting})
			}
		}
	}
}

// complete lets all go on that waited for what is read.
func (c *chart) complete(s *set, x item) {
	dump := x.dump[1:]
	if x.kind != 0 {
		dump = "(" + strconv.Itoa(x.kind) + x.dump + ")"
	}
	if x.of == "program" || x.of == "alone" {
		c.whole = dump
	}
	for _, y := range c.sets[x.from].items {
		if p, nesting := y.next(); p.name == x.of && nesting == x.nesting {
			s.items = append(s.items, y.after(dump))
		}
	}
}

// push goes on with a token, or tells what is wrong with it.
func (c *chart) push(token lex.Token) api.Errno {
	s, behind := c.sets[len(c.sets)-1], &set{}
	name, dump := token.Text, token.Text
	switch token.Kind {
	case lex.Word:
		name = "WORD"
	case lex.Number:
		name = "NUMBER"
	case lex.End:
		name, dump = "END", "$"
	}
	for _, x := range s.items {
		if p, _ := x.next(); p.name == name {
			behind.items = append(behind.items, x.after(dump))
		}
	}
	if len(behind.items) > 0 {
		c.sets = append(c.sets, behind)
		c.close()
		return api.OK
	}
	switch {
	case slices.Contains(s.full, "") || slices.Contains(s.full, ":"+token.Text):
		return api.ErrFull
	case s.deep:
		return api.ErrDepth
	}
	return api.ErrSyntax
}

// pop takes the last tokens back, but for the first n.
func (c *chart) pop(n int) { c.sets = c.sets[:n+1] }

// read goes on with tokens: the dump, if they are all, or the first fault.
func (c *chart) read(l []lex.Token) (string, lex.Fault) {
	for _, token := range l {
		if e := c.push(token); e != api.OK {
			return "", lex.Fault{E: e, At: token.At}
		}
	}
	return c.whole, lex.Fault{}
}
