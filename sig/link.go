package sig

import (
	"strings"

	"touchstone/ast"
)

// The levels of signs: one of a higher level takes what stands beside it ahead of one of a lower level.
const (
	imp = iota
	or
	and
	comparison
	sum
	product
)

// sign is one between two formulas, and the Op and level of both with it.
type sign struct {
	text      string
	op, level int
}

var signs = [...]sign{
	{"=>", ast.Imp, imp},
	{"||", ast.Or, or},
	{"&&", ast.And, and},
	{"=", ast.Eq, comparison},
	{"<>", ast.Ne, comparison},
	{"<", ast.Lt, comparison},
	{"<=", ast.Le, comparison},
	{">", ast.Gt, comparison},
	{">=", ast.Ge, comparison},
	{"+", ast.Add, sum},
	{"-", ast.Sub, sum},
	{"*", ast.Mul, product},
	{"/", ast.Div, product},
	{"%", ast.Mod, product},
}

func signOf(word string) (sign, bool) {
	for _, s := range signs {
		if s.text == word {
			return s, true
		}
	}
	return sign{}, false
}

// link is a sign in a text, and its place.
type link struct {
	sign
	at int
}

// loosest are the signs of a text that stand outside of all parentheses, with single blanks around, and have the lowest level of these. A `not` that it begins with takes all signs of higher levels than that of `&&`.
func loosest(text string, isNot bool) []link {
	var out []link
	level := product
	if isNot {
		level = and
	}
	open, begin := 0, 0
	for at := 0; at < len(text); {
		word, _, _ := strings.Cut(text[at:], " ")
		end := at + len(word)
		// Between two signs stands something, and so it does ahead of the first one and behind the last one: begin is where it does next.
		if s, ok := signOf(word); ok && open == 0 && at > begin && end < len(text) && s.level <= level {
			if s.level < level {
				out, level = nil, s.level
			}
			out = append(out, link{sign: s, at: at})
			begin = end + 1
		}
		open += strings.Count(word, "(") - strings.Count(word, ")")
		at = end + 1
	}
	return out
}
