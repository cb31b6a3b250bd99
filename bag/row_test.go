package bag_test

import (
	"runtime"
	"slices"
	"testing"
	"weak"

	"touchstone/bag"
)

// wantRow holds a row against what must be in it.
func wantRow[T comparable](t *testing.T, what string, r *bag.Row[T], things ...T) {
	t.Helper()
	if r.Len() != len(things) || !slices.Equal(r.All(), things) {
		t.Fatalf("%s: got %d %v, want %v", what, r.Len(), r.All(), things)
	}
}

// wantTaken holds what was taken from a row against what must be.
func wantTaken[T comparable](t *testing.T, what string, x T, ok bool, must T, there bool) {
	t.Helper()
	if x != must || ok != there {
		t.Fatalf("%s: got %v %v, want %v %v", what, x, ok, must, there)
	}
}

func TestRow(t *testing.T) { // P2.3
	r := bag.NewRow("a", "b", "a")
	wantRow(t, "new", r, "a", "b", "a")
	r.Push("c", "d")
	r.Push()
	wantRow(t, "pushed", r, "a", "b", "a", "c", "d")
	x, ok := r.Pop()
	wantTaken(t, "Pop", x, ok, "a", true)
	x, ok = r.Last()
	wantTaken(t, "Last", x, ok, "d", true)
	wantRow(t, "taken", r, "b", "a", "c")
	r.Push("e")
	x, ok = r.Last()
	wantTaken(t, "Last", x, ok, "e", true)
	x, ok = r.Pop()
	wantTaken(t, "Pop", x, ok, "b", true)
	wantRow(t, "taken again", r, "a", "c")
}

func TestRowOfNothing(t *testing.T) { // P2.3
	for i, r := range []*bag.Row[int]{bag.NewRow[int](), bag.NewRow(1), bag.NewRow(1)} {
		if i == 1 {
			r.Pop()
		}
		if i == 2 {
			r.Last()
		}
		for range 2 {
			wantRow(t, "nothing", r)
			x, ok := r.Pop()
			wantTaken(t, "Pop", x, ok, 0, false)
			x, ok = r.Last()
			wantTaken(t, "Last", x, ok, 0, false)
		}
		r.Push()
		wantRow(t, "still nothing", r)
		r.Push(7)
		wantRow(t, "one", r, 7)
	}
}

func TestRowZeroValuesAreThings(t *testing.T) { // P2.3
	r := bag.NewRow(0, 0)
	x, ok := r.Pop()
	wantTaken(t, "Pop", x, ok, 0, true)
	x, ok = r.Last()
	wantTaken(t, "Last", x, ok, 0, true)
	x, ok = r.Last()
	wantTaken(t, "Last", x, ok, 0, false)
}

func TestRowOfAnyKind(t *testing.T) { // P2.3
	lists := bag.NewRow([]int{1}, nil)
	if x, ok := lists.Last(); x != nil || !ok {
		t.Error(x, ok)
	}
	if x, ok := lists.Pop(); !slices.Equal(x, []int{1}) || !ok {
		t.Error(x, ok)
	}
	if x, ok := lists.Pop(); x != nil || ok {
		t.Error(x, ok)
	}
	empties := bag.NewRow(struct{}{}, struct{}{})
	empties.Push(struct{}{})
	empties.Pop()
	wantRow(t, "empties", empties, struct{}{}, struct{}{})
}

func TestRowLeavesWhatIsHandedIn(t *testing.T) { // P2.3
	for _, n := range []int{0, 1, 3} { // how many are in the row ahead of those that are handed in
		list := withRoom(77, 1, 2, 3)
		r := bag.NewRow(list...)
		if n != 3 {
			r = bag.NewRow(make([]int, n)...)
			r.Push(list...)
		}
		for r.Len() > 3 {
			r.Pop()
		}
		wantRow(t, "handed in", r, 1, 2, 3)
		r.Last()
		r.Pop()
		unchanged(t, "taken", list, 77, 1, 2, 3)
		scribble(list, 55)
		wantRow(t, "scribbled", r, 2)
		r.Push(4, 5, 6, 7)
		unchanged(t, "pushed", list, 55, 55, 55, 55)
		wantRow(t, "pushed", r, 2, 4, 5, 6, 7)
	}
	none := withRoom(99, []int{}...)
	r := bag.NewRow(none...)
	r.Push(none...)
	r.Push(1, 2)
	unchanged(t, "nothing", none, 99)
	wantRow(t, "nothing", r, 1, 2)
}

func TestRowTellsNewMemory(t *testing.T) { // P2.3
	r := bag.NewRow(1, 2, 3)
	all := r.All()
	scribble(r.All(), 44)
	wantRow(t, "r", r, 1, 2, 3)
	r.Pop()
	r.Push(8)
	scribble(r.All(), 44)
	wantRow(t, "gone round", r, 2, 3, 8)
	if !slices.Equal(all, []int{1, 2, 3}) {
		t.Error(all)
	}
}

// leave pushes things to a row, takes them away at both its ends, and tells of one of each end.
//
//go:noinline
func leave(r *bag.Row[*[4]string]) (weak.Pointer[[4]string], weak.Pointer[[4]string]) {
	r.Push(new([4]string), new([4]string), new([4]string))
	first, _ := r.Pop()
	last, _ := r.Last()
	return weak.Make(first), weak.Make(last)
}

func TestRowKeepsNothingThatWasTaken(t *testing.T) { // P2.3
	r := bag.NewRow[*[4]string]()
	first, last := leave(r)
	runtime.GC()
	if first.Value() != nil || last.Value() != nil {
		t.Error("what was taken away is kept")
	}
	if r.Len() != 1 {
		t.Error(r.Len())
	}
}

func TestRowsMany(t *testing.T) { // P2.3
	draw := draws()
	r := bag.NewRow[int]()
	var is []int
	for i := range 20000 {
		// Now and then it is mostly pushed, now and then mostly taken, so that it grows, goes round and is used up.
		grows := i/500%2 == 0
		if grows == (draw(4) > 0) {
			var more []int
			for range draw(3) {
				more = append(more, draw(1000)+1)
			}
			r.Push(more...)
			is = append(is, more...)
		} else if draw(3) > 0 {
			x, ok := r.Pop()
			if len(is) == 0 {
				wantTaken(t, "Pop", x, ok, 0, false)
			} else {
				wantTaken(t, "Pop", x, ok, is[0], true)
				is = is[1:]
			}
		} else {
			x, ok := r.Last()
			if len(is) == 0 {
				wantTaken(t, "Last", x, ok, 0, false)
			} else {
				wantTaken(t, "Last", x, ok, is[len(is)-1], true)
				is = is[:len(is)-1]
			}
		}
		wantRow(t, "r", r, is...)
	}
}
