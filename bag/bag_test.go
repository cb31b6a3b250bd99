package bag_test

import (
	"cmp"
	"maps"
	"math"
	"slices"
	"testing"

	"touchstone/bag"
)

// draws tells numbers from 0 to n - 1, always the same ones.
func draws() func(n int) int {
	state := uint64(88172645463325252)
	return func(n int) int {
		state ^= state << 13
		state ^= state >> 7
		state ^= state << 17
		return int(state >> 1 % uint64(n))
	}
}

// want holds a set against the things that it must have, rising, and asks it of each of all.
func want[T cmp.Ordered](t *testing.T, what string, s bag.Set[T], things []T, all ...T) {
	t.Helper()
	if got := s.Items(); !slices.Equal(got, things) {
		t.Fatalf("%s: got %v, want %v", what, got, things)
	}
	if s.Len() != len(things) {
		t.Fatalf("%s: Len is %d, want %d", what, s.Len(), len(things))
	}
	for _, x := range append(all, things...) {
		if s.Has(x) != slices.Contains(things, x) {
			t.Fatalf("%s: Has(%v) is %v of %v", what, x, s.Has(x), things)
		}
	}
}

func TestSetOf(t *testing.T) { // P2.1
	want(t, "example", bag.Of(3, 1, 3), []int{1, 3}, 0, 2, 4, -1, math.MaxInt)
	want(t, "nothing", bag.Of[int](), nil, 0, 1)
	want(t, "one", bag.Of(0), []int{0}, -1, 1)
	want(t, "all the same", bag.Of(7, 7, 7, 7), []int{7}, 6, 8)
	want(t, "falling", bag.Of(5, 4, 3, 2, 1), []int{1, 2, 3, 4, 5}, 0, 6)
	want(t, "ends", bag.Of(0, math.MaxInt, math.MinInt), []int{math.MinInt, 0, math.MaxInt}, 1)
}

type name string

func TestSetKinds(t *testing.T) { // P2.1
	want(t, "bytes", bag.Of("b", "é", "\xff", "", "a\x00", "Z", "a", "b", "ab"), []string{"", "Z", "a", "a\x00", "ab", "b", "é", "\xff"}, "A", "ba", "\x00")
	want(t, "names", bag.Of(name("y"), name("x")), []name{"x", "y"}, "", "z")
	want(t, "int8", bag.Of[int8](127, -128, 0), []int8{-128, 0, 127}, -1)
	want(t, "int64", bag.Of[int64](1, math.MinInt64, math.MaxInt64), []int64{math.MinInt64, 1, math.MaxInt64}, -1)
	want(t, "uint8", bag.Of[uint8](255, 128, 127), []uint8{127, 128, 255}, 0)
	want(t, "uint64", bag.Of[uint64](math.MaxUint64, 1<<63, 1, 1<<63-1), []uint64{1, 1<<63 - 1, 1 << 63, math.MaxUint64}, 0)
}

func TestSetZeroValue(t *testing.T) { // P2.1
	var zero bag.Set[string]
	a := bag.Of("a")
	want(t, "zero value", zero, nil, "", "a")
	want(t, "With", zero.With("b", "a", "b"), []string{"a", "b"})
	want(t, "With nothing", zero.With(), nil, "")
	want(t, "Without", zero.Without("", "a"), nil, "", "a")
	want(t, "Both", zero.Both(a), nil, "a")
	want(t, "Both, the other way", a.Both(zero), nil, "a")
	if !zero.Within(zero) || !zero.Within(a) || a.Within(zero) || !zero.Within(bag.Of[string]()) || !bag.Of[string]().Within(zero) {
		t.Error("Within")
	}
}

func TestSetWithAndWithout(t *testing.T) { // P2.1
	s := bag.Of("b", "d")
	want(t, "With", s.With("e", "a", "c", "a"), []string{"a", "b", "c", "d", "e"})
	want(t, "With what it has", s.With("d", "b", "d"), []string{"b", "d"})
	want(t, "With below", s.With("a"), []string{"a", "b", "d"})
	want(t, "With above", s.With("z"), []string{"b", "d", "z"})
	want(t, "With nothing", s.With(), []string{"b", "d"})
	want(t, "Without", s.Without("d"), []string{"b"}, "d")
	want(t, "Without others", s.Without("a", "c", "z", ""), []string{"b", "d"})
	want(t, "Without all", s.Without("d", "b", "d"), nil, "b", "d")
	want(t, "Without nothing", s.Without(), []string{"b", "d"})
	want(t, "s", s, []string{"b", "d"})
}

func TestSetBothAndWithin(t *testing.T) { // P2.1
	s, u := bag.Of(1, 2, 3, 5), bag.Of(5, 4, 2)
	want(t, "Both", s.Both(u), []int{2, 5}, 1, 3, 4)
	want(t, "Both, the other way", u.Both(s), []int{2, 5}, 1, 3, 4)
	want(t, "Both with itself", s.Both(s), []int{1, 2, 3, 5})
	want(t, "Both of none", s.Both(bag.Of(4, 6)), nil, 4, 6)
	if s.Within(u) || u.Within(s) || !s.Within(s) || !bag.Of(2, 5).Within(s) || s.Within(bag.Of(2, 5)) || bag.Of(4).Within(s) || bag.Of(1, 9).Within(s) || bag.Of(0, 1).Within(s) {
		t.Error("Within")
	}
	want(t, "s", s, []int{1, 2, 3, 5})
	want(t, "u", u, []int{2, 4, 5})
}

// sorted are the keys of a set made of Go's map.
func sorted(m map[int]bool) []int { return slices.Sorted(maps.Keys(m)) }

func TestSetsMany(t *testing.T) { // P2.1
	draw := draws()
	for round := range 600 {
		var first, second []int
		for range draw(40) {
			first = append(first, draw(50)-25)
		}
		for range draw(40) {
			second = append(second, draw(50)-25)
		}
		a, b := map[int]bool{}, map[int]bool{}
		for _, x := range first {
			a[x] = true
		}
		for _, x := range second {
			b[x] = true
		}
		either, left, both := maps.Clone(a), maps.Clone(a), map[int]bool{}
		for x := range b {
			either[x] = true
			delete(left, x)
			if a[x] {
				both[x] = true
			}
		}
		s, u := bag.Of(first...), bag.Of(second...)
		want(t, "With", s.With(second...), sorted(either))
		want(t, "Without", s.Without(second...), sorted(left))
		want(t, "Both", s.Both(u), sorted(both))
		want(t, "s", s, sorted(a))
		want(t, "u", u, sorted(b))
		if s.Within(u) != (len(left) == 0) || !s.Both(u).Within(u) || !s.Within(s.With(second...)) {
			t.Fatal(round, first, second)
		}
	}
}

// withRoom is a list with spare room, which holds something too.
func withRoom[T any](spare T, items ...T) []T {
	list := append(slices.Clone(items), spare, spare, spare)
	return list[:len(items)]
}

// unchanged holds a list that was handed in, and its spare room, against what was in it.
func unchanged[T comparable](t *testing.T, what string, list []T, spare T, items ...T) {
	t.Helper()
	if !slices.Equal(list, items) || !slices.Equal(list[len(list):len(list)+3], []T{spare, spare, spare}) {
		t.Errorf("%s: what was handed in is %v", what, list[:len(list)+3])
	}
}

// scribble writes to a list and to all its spare room.
func scribble[T any](list []T, x T) {
	list = list[:cap(list)]
	for i := range list {
		list[i] = x
	}
}

func TestSetLeavesWhatIsHandedIn(t *testing.T) { // P2.1
	list := withRoom(77, 3, 1, 3, 2)
	s := bag.Of(list...)
	unchanged(t, "Of", list, 77, 3, 1, 3, 2)
	more := withRoom(88, 9, 3, 0, 9)
	with, without := s.With(more...), s.Without(more...)
	unchanged(t, "With", more, 88, 9, 3, 0, 9)
	scribble(list, 55)
	scribble(more, 66)
	want(t, "Of", s, []int{1, 2, 3}, 55, 77)
	want(t, "With", with, []int{0, 1, 2, 3, 9}, 66, 88)
	want(t, "Without", without, []int{1, 2}, 3)
}

func TestSetTellsNewMemory(t *testing.T) { // P2.1
	s := bag.Of(5, 3, 1, 3, 5)
	first, second := s.Items(), s.Items()
	scribble(first, 44)
	if !slices.Equal(second, []int{1, 3, 5}) {
		t.Error(second)
	}
	want(t, "Items", s, []int{1, 3, 5}, 44)
	for _, x := range []bag.Set[int]{s.With(), s.Without(), s.Both(s), s.With(7), s.Without(1)} {
		scribble(x.Items(), 33)
	}
	want(t, "s", s, []int{1, 3, 5}, 33)
}

func TestSetsOfOneSetStayApart(t *testing.T) { // P2.1
	s := bag.Of(1, 1, 1, 2, 2, 9).Without(9)
	a, b := s.With(3), s.With(4)
	c := s.Both(s).With(5)
	d, e := a.With(10), a.With(11)
	want(t, "s", s, []int{1, 2})
	want(t, "a", a, []int{1, 2, 3})
	want(t, "b", b, []int{1, 2, 4})
	want(t, "c", c, []int{1, 2, 5})
	want(t, "d", d, []int{1, 2, 3, 10})
	want(t, "e", e, []int{1, 2, 3, 11})
}
