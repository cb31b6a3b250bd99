// Package zed is layer 1: see shared/doc/01-zed.md.
package zed

import (
	"slices"
	"strings"

	"touchstone/api"
)

// Int is a whole number: its sign, and its words, the lowest first, the last one not 0.
// Words are never written to once they are an Int's, so that Ints may share them.
type Int struct {
	below bool
	words []uint64
}

// maxPower is the greatest exponent that Pow takes.
const maxPower = 1000

// maxSmall is the greatest absolute value that Small tells.
const maxSmall = 1 << 62

// signed is the number with these words as its absolute value; 0 has one form alone.
func signed(below bool, words []uint64) Int {
	words = trim(words)
	return Int{below: below && len(words) > 0, words: words}
}

// From is a small number.
func From(n int) Int {
	if n < 0 {
		return signed(true, []uint64{-uint64(n)})
	}
	return signed(false, []uint64{uint64(n)})
}

// Parse reads a number.
func Parse(s string) (Int, api.Errno) {
	digits, below := strings.CutPrefix(s, "-")
	if len(digits) > api.MaxDigits {
		return Int{}, api.ErrSize
	}
	if !plainDigits(digits) || below && digits == "0" {
		return Int{}, api.ErrForm
	}
	var words []uint64
	for i := range len(digits) {
		words = timesPlus(words, 10, uint64(digits[i]-'0'))
	}
	return signed(below, words), api.OK
}

// plainDigits tells whether s is digits, at least one, without a nought ahead of others.
func plainDigits(s string) bool {
	for i := range len(s) {
		if s[i] < '0' || s[i] > '9' {
			return false
		}
	}
	return s == "0" || s != "" && s[0] != '0'
}

// String is a number's text.
func (a Int) String() string {
	if len(a.words) == 0 {
		return "0"
	}
	text := digitsFromLast(a.words)
	if a.below {
		text = append(text, '-')
	}
	slices.Reverse(text)
	return string(text)
}

// Sign is a number's sign.
func (a Int) Sign() int {
	if len(a.words) == 0 {
		return 0
	}
	if a.below {
		return -1
	}
	return 1
}

// Cmp compares two numbers.
func (a Int) Cmp(b Int) int {
	if a.below != b.below {
		if a.below {
			return -1
		}
		return 1
	}
	if a.below {
		return compare(b.words, a.words)
	}
	return compare(a.words, b.words)
}

// Neg is the number with the other sign.
func (a Int) Neg() Int { return signed(!a.below, a.words) }

// Abs is the number without a sign.
func (a Int) Abs() Int { return signed(false, a.words) }

// Add adds numbers.
func (a Int) Add(more ...Int) Int {
	for _, b := range more {
		a = a.plus(b)
	}
	return a
}

func (a Int) plus(b Int) Int {
	if a.below == b.below {
		return signed(a.below, sum(a.words, b.words))
	}
	if compare(a.words, b.words) < 0 {
		return signed(b.below, difference(b.words, a.words))
	}
	return signed(a.below, difference(a.words, b.words))
}

// Sub takes a number away.
func (a Int) Sub(b Int) Int { return a.plus(b.Neg()) }

// Mul multiplies two numbers.
func (a Int) Mul(b Int) Int { return signed(a.below != b.below, product(a.words, b.words)) }

// DivMod is quotient and rest.
func (a Int) DivMod(b Int) (Int, Int, api.Errno) {
	if len(b.words) == 0 {
		return Int{}, Int{}, api.ErrZero
	}
	q, r := divide(a.words, b.words)
	if a.below && len(r) > 0 {
		// The rest is never below 0: one more time b is taken, and what that is too much is the rest.
		q, r = sum(q, []uint64{1}), difference(b.words, r)
	}
	return signed(a.below != b.below, q), signed(false, r), api.OK
}

// Small is a number that is small enough.
func (a Int) Small() (int, bool) {
	if len(a.words) == 0 {
		return 0, true
	}
	if len(a.words) > 1 || a.words[0] > maxSmall {
		return 0, false
	}
	n := int(a.words[0])
	if a.below {
		n = -n
	}
	return n, true
}

// Bits is how many binary digits there are.
func (a Int) Bits() int { return length(a.words) }

// Gcd is the greatest common divisor of all.
func Gcd(l ...Int) Int {
	var g []uint64
	for _, a := range l {
		g = common(g, a.words)
	}
	return signed(false, g)
}

// Lcm is the least common multiple of two.
func Lcm(a Int, b Int) Int {
	if len(a.words) == 0 || len(b.words) == 0 {
		return Int{}
	}
	q, _ := divide(a.words, common(a.words, b.words))
	return signed(false, product(q, b.words))
}

// Pow is a power.
func Pow(a Int, n int) (Int, api.Errno) {
	if n < 0 || n > maxPower {
		return Int{}, api.ErrRange
	}
	p := From(1)
	for range n {
		p = p.Mul(a)
	}
	return p, api.OK
}

// Best are the least and the greatest.
func Best(l ...Int) (Int, Int, api.Errno) {
	if len(l) == 0 {
		return Int{}, Int{}, api.ErrNone
	}
	least, most := l[0], l[0]
	for _, a := range l[1:] {
		if a.Cmp(least) < 0 {
			least = a
		}
		if a.Cmp(most) > 0 {
			most = a
		}
	}
	return least, most, api.OK
}
