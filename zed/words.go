package zed

import (
	"cmp"
	"math/bits"
)

// Here are numbers from 0 on, as words of 64 bits, the lowest first, the last one not 0; 0 has none.
// Unless a remark says so, what is handed in isn't written to; what is told may share its words.

const (
	groupDigits = 19                   // as many decimal digits as always fit into one word
	groupBase   = 10000000000000000000 // 10 to the power of groupDigits
)

// trim is a without words that are 0 at its end.
func trim(a []uint64) []uint64 {
	n := len(a)
	for n > 0 && a[n-1] == 0 {
		n--
	}
	if n == 0 {
		return nil
	}
	return a[:n]
}

func length(a []uint64) int {
	if len(a) == 0 {
		return 0
	}
	return 64*(len(a)-1) + bits.Len64(a[len(a)-1])
}

func compare(a, b []uint64) int {
	if len(a) != len(b) {
		return cmp.Compare(len(a), len(b))
	}
	for i := len(a) - 1; i >= 0; i-- {
		if a[i] != b[i] {
			return cmp.Compare(a[i], b[i])
		}
	}
	return 0
}

func sum(a, b []uint64) []uint64 {
	if len(a) < len(b) {
		a, b = b, a
	}
	out := make([]uint64, len(a)+1)
	copy(out, a)
	out[len(a)] = addInto(out[:len(a)], b)
	return trim(out)
}

// addInto adds b to a, which is written to and has at least as many words, and tells what is carried over a's end.
func addInto(a, b []uint64) uint64 {
	var carry uint64
	for i := range a {
		if i >= len(b) && carry == 0 {
			return 0
		}
		var w uint64
		if i < len(b) {
			w = b[i]
		}
		a[i], carry = bits.Add64(a[i], w, carry)
	}
	return carry
}

// difference is a without b, which isn't greater.
func difference(a, b []uint64) []uint64 {
	out := make([]uint64, len(a))
	copy(out, a)
	takeTimes(out, b, 1)
	return trim(out)
}

// takeTimes takes q times b from a, which is written to and has at least as many words as b, and tells what is lacking beyond a's end.
func takeTimes(a, b []uint64, q uint64) uint64 {
	var carry uint64
	for i, w := range b {
		high, low := bits.Mul64(q, w)
		low, over := bits.Add64(low, carry, 0)
		var under uint64
		a[i], under = bits.Sub64(a[i], low, 0)
		carry = high + over + under
	}
	for i := len(b); i < len(a) && carry != 0; i++ {
		a[i], carry = bits.Sub64(a[i], carry, 0)
	}
	return carry
}

func product(a, b []uint64) []uint64 {
	out := make([]uint64, len(a)+len(b))
	for i, w := range a {
		out[i+len(b)] = addTimes(out[i:i+len(b)], b, w)
	}
	return trim(out)
}

// addTimes adds q times b to a, which is written to and has as many words as b, and tells what is carried over a's end.
func addTimes(a, b []uint64, q uint64) uint64 {
	var carry uint64
	for i, w := range b {
		high, low := bits.Mul64(q, w)
		low, over := bits.Add64(low, carry, 0)
		high += over
		a[i], over = bits.Add64(a[i], low, 0)
		carry = high + over
	}
	return carry
}

// timesPlus is a times n and more; a is written to, and so is its spare room.
func timesPlus(a []uint64, n, more uint64) []uint64 {
	for i, w := range a {
		high, low := bits.Mul64(w, n)
		low, over := bits.Add64(low, more, 0)
		a[i], more = low, high+over
	}
	if more == 0 {
		return a
	}
	return append(a, more)
}

// digitsFromLast are the decimal digits of a, which isn't 0, the last one first.
func digitsFromLast(a []uint64) []byte {
	left := make([]uint64, len(a))
	copy(left, a)
	var out []byte
	for len(left) > 0 {
		group := divideInPlace(left, groupBase)
		left = trim(left)
		for range groupDigits {
			out = append(out, byte('0'+group%10))
			group /= 10
		}
	}
	for out[len(out)-1] == '0' {
		out = out[:len(out)-1]
	}
	return out
}

// divideInPlace puts a's quotient by n, which isn't 0, in a's place and tells the rest.
func divideInPlace(a []uint64, n uint64) uint64 {
	var rest uint64
	for i := len(a) - 1; i >= 0; i-- {
		a[i], rest = bits.Div64(rest, a[i], n)
	}
	return rest
}

// divide is quotient and rest of a by b, which isn't 0.
func divide(a, b []uint64) ([]uint64, []uint64) {
	if compare(a, b) < 0 {
		return nil, a
	}
	if len(b) == 1 {
		q := make([]uint64, len(a))
		copy(q, a)
		rest := divideInPlace(q, b[0])
		return trim(q), trim([]uint64{rest})
	}
	return divideLong(a, b)
}

// divideLong is quotient and rest of a by b, which has at least two words and no more than a.
// It is division by hand, word by word (Knuth's algorithm D); both are moved up until b's highest bit is set, so that a guess from the highest words is at most 2 too great.
func divideLong(a, b []uint64) ([]uint64, []uint64) {
	shift := bits.LeadingZeros64(b[len(b)-1])
	high := moveUp(b, shift)[:len(b)]
	left := moveUp(a, shift)
	q := make([]uint64, len(a)-len(b)+1)
	for i := len(q) - 1; i >= 0; i-- {
		q[i] = takeOften(left[i:i+len(b)+1], high)
	}
	moveDown(left, shift)
	return trim(q), trim(left)
}

// takeOften takes b from a as often as it goes, and tells how often: a is written to, has one word more than b, and without its lowest word is below b, whose highest bit is set.
func takeOften(a, b []uint64) uint64 {
	q := guess(a[len(b)], a[len(b)-1], b[len(b)-1])
	lacking := takeTimes(a, b, q)
	for lacking > 0 {
		q--
		lacking -= addInto(a, b)
	}
	return q
}

// guess is the quotient of two words by one that is at least as great as the higher of them, if it fits into a word, else the greatest word.
func guess(high, low, by uint64) uint64 {
	if high >= by {
		return ^uint64(0)
	}
	q, _ := bits.Div64(high, low, by)
	return q
}

// moveUp is a times 2 to the power of shift, which is below 64, with one word more than a.
func moveUp(a []uint64, shift int) []uint64 {
	out := make([]uint64, len(a)+1)
	for i, w := range a {
		out[i] |= w << shift
		out[i+1] = w >> (64 - shift)
	}
	return out
}

// moveDown takes the lowest bits off a, which is written to; shift is below 64.
func moveDown(a []uint64, shift int) {
	for i := range a {
		a[i] >>= shift
		if i+1 < len(a) {
			a[i] |= a[i+1] << (64 - shift)
		}
	}
}

// common is the greatest number that divides both.
func common(a, b []uint64) []uint64 {
	for len(b) > 1 {
		_, rest := divide(a, b)
		a, b = b, rest
	}
	if len(b) == 0 {
		return a
	}
	_, rest := divide(a, b)
	x, y := b[0], uint64(0)
	if len(rest) > 0 {
		y = rest[0]
	}
	for y != 0 {
		x, y = y, x%y
	}
	return []uint64{x}
}
