package bag_test

import (
	"math"
	"testing"

	"touchstone/api"
	"touchstone/bag"
)

func classes(t *testing.T, n int) *bag.Classes {
	t.Helper()
	c, e := bag.NewClasses(n)
	if e != api.OK || c == nil || c.Count() != n {
		t.Fatal(n, e)
	}
	return c
}

// wantLeast holds what Find tells of 0, 1, .. against what it must.
func wantLeast(t *testing.T, c *bag.Classes, count int, least ...int) {
	t.Helper()
	for a, must := range least {
		if n, e := c.Find(a); n != must || e != api.OK {
			t.Fatalf("Find(%d): got %d %d, want %d", a, n, e, must)
		}
	}
	if c.Count() != count {
		t.Fatalf("Count: got %d, want %d", c.Count(), count)
	}
}

func join(t *testing.T, c *bag.Classes, a, b int, must bool) {
	t.Helper()
	if ok, e := c.Join(a, b); ok != must || e != api.OK {
		t.Fatalf("Join(%d, %d): got %v %d, want %v", a, b, ok, e, must)
	}
}

func TestClasses(t *testing.T) { // P2.4
	c := classes(t, 4)
	wantLeast(t, c, 4, 0, 1, 2, 3)
	join(t, c, 3, 1, true)
	wantLeast(t, c, 3, 0, 1, 2, 1)
	join(t, c, 1, 2, true)
	wantLeast(t, c, 2, 0, 1, 1, 1)
	join(t, c, 2, 3, false)
	join(t, c, 3, 2, false)
	join(t, c, 0, 0, false)
	join(t, c, 3, 3, false)
	wantLeast(t, c, 2, 0, 1, 1, 1)
	join(t, c, 3, 0, true)
	wantLeast(t, c, 1, 0, 0, 0, 0)
}

func TestNewClassesRange(t *testing.T) { // P2.4
	for _, n := range []int{-1, math.MinInt, 65537, math.MaxInt} {
		if c, e := bag.NewClasses(n); c != nil || e != api.ErrRange {
			t.Error(n, c, e)
		}
	}
	for _, n := range []int{0, 1, 65535, 65536} {
		c := classes(t, n)
		if n > 0 {
			if a, e := c.Find(n - 1); a != n-1 || e != api.OK {
				t.Error(n, a, e)
			}
		}
		if a, e := c.Find(n); a != 0 || e != api.ErrRange {
			t.Error(n, a, e)
		}
	}
}

func TestClassesRange(t *testing.T) { // P2.4
	for _, n := range []int{0, 1, 3} {
		c := classes(t, n)
		for _, a := range []int{-1, n, n + 1, math.MinInt, math.MaxInt} {
			for _, p := range [][2]int{{a, 0}, {0, a}, {a, a}} {
				if ok, e := c.Join(p[0], p[1]); ok || e != api.ErrRange {
					t.Error(n, p, ok, e)
				}
			}
			if least, e := c.Find(a); least != 0 || e != api.ErrRange {
				t.Error(n, a, least, e)
			}
		}
		wantLeast(t, c, n, []int{0, 1, 2}[:n]...)
	}
}

func TestClassesApart(t *testing.T) { // P2.4
	a, b := classes(t, 3), classes(t, 3)
	join(t, a, 2, 0, true)
	wantLeast(t, a, 2, 0, 1, 0)
	wantLeast(t, b, 3, 0, 1, 2)
}

func TestClassesMany(t *testing.T) { // P2.4
	draw := draws()
	for range 60 {
		n := 1 + draw(40)
		c, least := classes(t, n), make([]int, n)
		for a := range n {
			least[a] = a
		}
		count := n
		for range 2 * n {
			a, b := draw(n), draw(n)
			low, high := min(least[a], least[b]), max(least[a], least[b])
			join(t, c, a, b, low != high)
			for i := range least {
				if least[i] == high {
					least[i] = low
				}
			}
			if low != high {
				count--
			}
			wantLeast(t, c, count, least...)
		}
	}
}

func TestClassesLongWay(t *testing.T) { // P2.4
	// All are joined from the last pair on, so that each leads to the one before it alone.
	c := classes(t, 65536)
	for a := 65535; a > 0; a-- {
		join(t, c, a, a-1, true)
	}
	wantLeast(t, c, 1, make([]int, 65536)...)
}
