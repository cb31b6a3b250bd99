package bag

import "touchstone/api"

// maxClasses is the greatest number that NewClasses takes.
const maxClasses = 65536

// Classes part numbers: each number leads to a lesser one of its class, the least one to itself.
type Classes struct {
	leads []int
	count int
}

// NewClasses are classes of one number each.
func NewClasses(n int) (*Classes, api.Errno) {
	if n < 0 || n > maxClasses {
		return nil, api.ErrRange
	}
	leads := make([]int, n)
	for a := range n {
		leads[a] = a
	}
	return &Classes{leads, n}, api.OK
}

// Join makes two classes one, and tells whether they weren't.
func (c *Classes) Join(a int, b int) (bool, api.Errno) {
	if !c.has(a) || !c.has(b) {
		return false, api.ErrRange
	}
	a, b = c.least(a), c.least(b)
	if a == b {
		return false, api.OK
	}
	c.leads[max(a, b)] = min(a, b)
	c.count--
	return true, api.OK
}

// Find is the least number of a class.
func (c *Classes) Find(a int) (int, api.Errno) {
	if !c.has(a) {
		return 0, api.ErrRange
	}
	return c.least(a), api.OK
}

func (c *Classes) has(a int) bool { return 0 <= a && a < len(c.leads) }

// least is the least number of a's class. Each number on the way is led on past the next one, so that ways stay short.
func (c *Classes) least(a int) int {
	for c.leads[a] != a {
		c.leads[a] = c.leads[c.leads[a]]
		a = c.leads[a]
	}
	return a
}

// Count is how many classes there are.
func (c *Classes) Count() int { return c.count }
