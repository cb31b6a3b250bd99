package lane_test

import (
	"math"
	"math/rand/v2"
	"runtime"
	"slices"
	"testing"
	"weak"

	"touchstone/api"
	"touchstone/lane"
)

// lanes are new ones.
func lanes[T any](t *testing.T, room int) *lane.Lanes[T] {
	t.Helper()
	l, e := lane.New[T](room)
	if e != api.OK || l == nil {
		t.Fatalf("New(%d): %v %d", room, l, e)
	}
	return l
}

// offer offers things, each of which must be answered with e.
func offer[T any](t *testing.T, l *lane.Lanes[T], urgent bool, e api.Errno, things ...T) {
	t.Helper()
	for _, x := range things {
		if got := l.Offer(x, urgent); got != e {
			t.Fatalf("Offer(%v, %v): got %d, want %d", x, urgent, got, e)
		}
	}
}

func wantLen[T any](t *testing.T, l *lane.Lanes[T], urgent, usual int) {
	t.Helper()
	if a, b := l.Len(); a != urgent || b != usual {
		t.Fatalf("Len: got %d %d, want %d %d", a, b, urgent, usual)
	}
}

// wantNext takes things, which must be these.
func wantNext[T comparable](t *testing.T, l *lane.Lanes[T], things ...T) {
	t.Helper()
	for i, want := range things {
		if x, ok := l.Take(); x != want || !ok {
			t.Fatalf("Take %d of %v: got %v %v", i, things, x, ok)
		}
	}
}

// wantNothing holds that nothing waits.
func wantNothing[T comparable](t *testing.T, l *lane.Lanes[T]) {
	t.Helper()
	wantLen(t, l, 0, 0)
	for range 2 {
		var none T
		if x, ok := l.Take(); x != none || ok {
			t.Fatalf("Take of nothing: got %v %v", x, ok)
		}
		if all := l.Drain(); len(all) != 0 {
			t.Fatalf("Drain of nothing: got %v", all)
		}
	}
	wantLen(t, l, 0, 0)
}

func TestNewRange(t *testing.T) { // P3.1
	for _, room := range []int{0, -1, math.MinInt, api.MaxLanes + 1, math.MaxInt} {
		if l, e := lane.New[string](room); l != nil || e != api.ErrRange {
			t.Errorf("New(%d): got %v %d", room, l, e)
		}
	}
	for _, room := range []int{1, 2, api.MaxLanes - 1, api.MaxLanes} {
		wantNothing(t, lanes[string](t, room))
	}
}

func TestRoomOfEach(t *testing.T) { // P3.1, P3.2
	for _, room := range []int{1, 2, 5, api.MaxLanes} {
		for _, urgent := range []bool{true, false} {
			l := lanes[int](t, room)
			count := func(n, other int) {
				t.Helper()
				if urgent {
					wantLen(t, l, n, other)
				} else {
					wantLen(t, l, other, n)
				}
			}
			for i := range room {
				offer(t, l, urgent, api.OK, i)
				count(i+1, 0)
			}
			offer(t, l, urgent, api.ErrFull, -1, -2)
			count(room, 0)
			for i := range room {
				offer(t, l, !urgent, api.OK, -i)
				count(room, i+1)
			}
			offer(t, l, !urgent, api.ErrFull, -1, -2)
			count(room, room)
			if all := l.Drain(); len(all) != 2*room || slices.Contains(all, -room) {
				t.Fatal(all)
			}
			offer(t, l, urgent, api.OK, 7)
			count(1, 0)
		}
	}
}

func TestOfferFull(t *testing.T) { // P3.2
	l := lanes[string](t, 2)
	offer(t, l, true, api.OK, "a", "b")
	offer(t, l, true, api.ErrFull, "x")
	offer(t, l, false, api.OK, "A", "B")
	offer(t, l, false, api.ErrFull, "X")
	wantNext(t, l, "a")
	offer(t, l, false, api.ErrFull, "X")
	offer(t, l, true, api.OK, "c")
	offer(t, l, true, api.ErrFull, "x")
	wantLen(t, l, 2, 2)
	wantNext(t, l, "b", "c", "A")
	offer(t, l, false, api.OK, "C")
	offer(t, l, false, api.ErrFull, "X")
	wantNext(t, l, "B", "C")
	wantNothing(t, l)
}

func TestShut(t *testing.T) { // P3.2
	l := lanes[string](t, 2)
	offer(t, l, true, api.OK, "a", "b")
	offer(t, l, false, api.OK, "A")
	for range 2 {
		l.Shut()
		offer(t, l, true, api.ErrOrder, "full")
		offer(t, l, false, api.ErrOrder, "room")
		wantLen(t, l, 2, 1)
	}
	wantNext(t, l, "a", "b")
	offer(t, l, true, api.ErrOrder, "x")
	wantNext(t, l, "A")
	wantNothing(t, l)
	offer(t, l, true, api.ErrOrder, "x")
	offer(t, l, false, api.ErrOrder, "x")
	wantNothing(t, l)
}

func TestShutThenDrain(t *testing.T) { // P3.2, P3.3
	l := lanes[int](t, 3)
	offer(t, l, false, api.OK, 1, 2)
	offer(t, l, true, api.OK, 3)
	l.Shut()
	if all := l.Drain(); !slices.Equal(all, []int{3, 1, 2}) {
		t.Error(all)
	}
	offer(t, l, false, api.ErrOrder, 4)
	wantNothing(t, l)
	empty := lanes[int](t, 1)
	empty.Shut()
	offer(t, empty, true, api.ErrOrder, 1)
	wantNothing(t, empty)
}

func TestTakeExample(t *testing.T) { // P3.3
	l := lanes[string](t, 5)
	offer(t, l, false, api.OK, "a")
	offer(t, l, true, api.OK, "1", "2", "3", "4", "5")
	wantNext(t, l, "1", "2", "3", "4", "a", "5")
	wantNothing(t, l)
}

func TestTakeOneLaneAlone(t *testing.T) { // P3.3
	for _, urgent := range []bool{true, false} {
		l := lanes[int](t, 9)
		offer(t, l, urgent, api.OK, 1, 2, 3, 4, 5, 6, 7, 8, 9)
		wantNext(t, l, 1, 2, 3, 4, 5, 6, 7, 8, 9)
		wantNothing(t, l)
	}
}

func TestTakeFewUrgent(t *testing.T) { // P3.3
	l := lanes[int](t, 9)
	offer(t, l, false, api.OK, -1, -2)
	offer(t, l, true, api.OK, 1, 2, 3, 4)
	wantNext(t, l, 1, 2, 3, 4, -1, -2)
	offer(t, l, false, api.OK, -1, -2)
	offer(t, l, true, api.OK, 1, 2, 3)
	wantNext(t, l, 1, 2, 3, -1, -2)
}

func TestTakeCountsAgainBehindAUsualOne(t *testing.T) { // P3.3
	l := lanes[int](t, 20)
	offer(t, l, false, api.OK, -1, -2, -3)
	offer(t, l, true, api.OK, 1, 2, 3, 4, 5, 6, 7, 8, 9, 10, 11, 12, 13)
	wantNext(t, l, 1, 2, 3, 4, -1, 5, 6, 7, 8, -2, 9, 10, 11, 12, -3, 13)
	wantNothing(t, l)
	// A usual one that is taken because no urgent one waits is one that was taken, too.
	offer(t, l, false, api.OK, -1, -2)
	offer(t, l, true, api.OK, 1, 2, 3)
	wantNext(t, l, 1, 2, 3, -1)
	offer(t, l, true, api.OK, 4, 5, 6, 7, 8)
	wantNext(t, l, 4, 5, 6, 7, -2, 8)
}

func TestTakeCountsNoneWhileNoUsualWaits(t *testing.T) { // P3.3
	l := lanes[int](t, 20)
	offer(t, l, true, api.OK, 1, 2, 3, 4, 5, 6, 7, 8, 9, 10, 11)
	wantNext(t, l, 1, 2, 3, 4, 5, 6)
	offer(t, l, false, api.OK, -1)
	wantNext(t, l, 7, 8, 9, 10, -1, 11)
	offer(t, l, true, api.OK, 1, 2)
	wantNext(t, l, 1)
	offer(t, l, false, api.OK, -1)
	offer(t, l, true, api.OK, 3, 4, 5, 6)
	wantNext(t, l, 2, 3, 4, 5, -1, 6)
}

func TestTakeCountsWhatWasTakenAlone(t *testing.T) { // P3.3
	l := lanes[int](t, 2)
	offer(t, l, false, api.OK, -1, -2)
	for i := range 4 {
		offer(t, l, false, api.ErrFull, -3)
		offer(t, l, true, api.OK, i)
		wantNext(t, l, i)
	}
	offer(t, l, true, api.OK, 4, 5)
	offer(t, l, true, api.ErrFull, 6)
	wantLen(t, l, 2, 2)
	wantNext(t, l, -1, 4, 5, -2)
	for range 9 {
		wantNothing(t, l)
	}
	offer(t, l, false, api.OK, -1)
	offer(t, l, true, api.OK, 1, 2)
	wantNext(t, l, 1, 2, -1)
}

func TestDrain(t *testing.T) { // P3.3
	l := lanes[int](t, 9)
	offer(t, l, false, api.OK, -1, -2, -3)
	offer(t, l, true, api.OK, 1, 2, 3, 4, 5, 6)
	wantNext(t, l, 1, 2)
	if all := l.Drain(); !slices.Equal(all, []int{3, 4, -1, 5, 6, -2, -3}) {
		t.Error(all)
	}
	wantNothing(t, l)
	offer(t, l, false, api.OK, -1)
	offer(t, l, true, api.OK, 1, 2, 3, 4, 5)
	if all := l.Drain(); !slices.Equal(all, []int{1, 2, 3, 4, -1, 5}) {
		t.Error(all)
	}
	wantNothing(t, l)
}

func TestDrainTellsNewMemory(t *testing.T) { // P3.3
	l := lanes[int](t, 4)
	offer(t, l, true, api.OK, 1, 2)
	first := l.Drain()
	offer(t, l, true, api.OK, 3, 4)
	second := l.Drain()
	offer(t, l, false, api.OK, 5)
	for _, list := range [][]int{first, second} {
		for i := range list[:cap(list)] {
			list[:cap(list)][i] *= -1
		}
	}
	if !slices.Equal(first, []int{-1, -2}) || !slices.Equal(second, []int{-3, -4}) {
		t.Error(first, second)
	}
	wantNext(t, l, 5)
}

func TestZeroValuesAreThings(t *testing.T) { // P3.2, P3.3
	l := lanes[string](t, 1)
	offer(t, l, true, api.OK, "")
	offer(t, l, false, api.OK, "")
	wantLen(t, l, 1, 1)
	wantNext(t, l, "", "")
	offer(t, l, false, api.OK, "")
	if all := l.Drain(); len(all) != 1 {
		t.Error(all)
	}
	wantNothing(t, l)
}

type pair struct {
	name string
	list [2]int
}

func TestAnyKind(t *testing.T) { // P3.1 to P3.3
	empties := lanes[struct{}](t, 2)
	offer(t, empties, true, api.OK, struct{}{}, struct{}{})
	offer(t, empties, true, api.ErrFull, struct{}{})
	wantNext(t, empties, struct{}{}, struct{}{})
	wantNothing(t, empties)
	pairs := lanes[pair](t, 2)
	offer(t, pairs, false, api.OK, pair{"a", [2]int{1, 2}}, pair{})
	wantNext(t, pairs, pair{"a", [2]int{1, 2}}, pair{})
	wantNothing(t, pairs)
	errors := lanes[error](t, 1)
	offer(t, errors, true, api.OK, nil)
	wantNext(t, errors, nil)
	wantNothing(t, errors)
	lists := lanes[[]int](t, 2)
	list := []int{1, 2}
	offer(t, lists, true, api.OK, list, nil)
	if all := lists.Drain(); len(all) != 2 || &all[0][0] != &list[0] || all[1] != nil {
		t.Error(all)
	}
}

func TestLanesApart(t *testing.T) { // P3.1
	a, b := lanes[int](t, 1), lanes[int](t, 1)
	offer(t, a, true, api.OK, 1)
	a.Shut()
	wantNothing(t, b)
	offer(t, b, true, api.OK, 2)
	offer(t, b, false, api.OK, 3)
	wantNext(t, b, 2, 3)
	wantNext(t, a, 1)
}

// leave lets things wait and takes them, by Take and by Drain, and tells of one of each.
//
//go:noinline
func leave(t *testing.T, l *lane.Lanes[*[4]string]) (weak.Pointer[[4]string], weak.Pointer[[4]string]) {
	offer(t, l, true, api.OK, new([4]string))
	offer(t, l, false, api.OK, new([4]string))
	taken, _ := l.Take()
	drained := l.Drain()
	return weak.Make(taken), weak.Make(drained[0])
}

func TestKeepsNothingThatWasTaken(t *testing.T) { // P3.3
	l := lanes[*[4]string](t, 3)
	taken, drained := leave(t, l)
	runtime.GC()
	if taken.Value() != nil || drained.Value() != nil {
		t.Error("what was taken is kept")
	}
	wantNothing(t, l)
}

// plain are lanes by the document's words: what waits, and of each that was taken whether it was an urgent one that was taken while something waited in the usual lane.
type plain struct {
	room   int
	lanes  [2][]int
	passed []bool
	shut   bool
}

const (
	usual = iota
	urgent
)

func (p *plain) offer(x, kind int) api.Errno {
	if p.shut {
		return api.ErrOrder
	}
	if len(p.lanes[kind]) == p.room {
		return api.ErrFull
	}
	p.lanes[kind] = append(p.lanes[kind], x)
	return api.OK
}

func (p *plain) take() (int, bool) {
	n := len(p.passed)
	kind := urgent
	if len(p.lanes[urgent]) == 0 || n >= 4 && !slices.Contains(p.passed[n-4:], false) && len(p.lanes[usual]) > 0 {
		kind = usual
	}
	if len(p.lanes[kind]) == 0 {
		return 0, false
	}
	x := p.lanes[kind][0]
	p.passed = append(p.passed, kind == urgent && len(p.lanes[usual]) > 0)
	p.lanes[kind] = p.lanes[kind][1:]
	return x, true
}

func (p *plain) drain() []int {
	var out []int
	for x, ok := p.take(); ok; x, ok = p.take() {
		out = append(out, x)
	}
	return out
}

// both asks lanes and plain ones for the same.
type both struct {
	t     *testing.T
	lanes *lane.Lanes[int]
	plain *plain
	next  int
}

func newBoth(t *testing.T, room int) *both {
	return &both{t: t, lanes: lanes[int](t, room), plain: &plain{room: room}}
}

func (b *both) offer(kind int) {
	b.t.Helper()
	b.next++
	offer(b.t, b.lanes, kind == urgent, b.plain.offer(b.next, kind), b.next)
	wantLen(b.t, b.lanes, len(b.plain.lanes[urgent]), len(b.plain.lanes[usual]))
}

func (b *both) take() {
	b.t.Helper()
	want, there := b.plain.take()
	if x, ok := b.lanes.Take(); x != want || ok != there {
		b.t.Fatalf("Take: got %d %v, want %d %v", x, ok, want, there)
	}
	wantLen(b.t, b.lanes, len(b.plain.lanes[urgent]), len(b.plain.lanes[usual]))
}

func (b *both) drain() {
	b.t.Helper()
	want := b.plain.drain()
	if all := b.lanes.Drain(); !slices.Equal(all, want) {
		b.t.Fatalf("Drain: got %v, want %v", all, want)
	}
	wantLen(b.t, b.lanes, 0, 0)
}

func TestAllShortWays(t *testing.T) { // P3.2, P3.3
	const steps = 10
	ways := 1
	for range steps {
		ways *= 3
	}
	for way := range ways {
		b := newBoth(t, 4)
		rest := way
		for range steps {
			if rest%3 == 2 {
				b.take()
			} else {
				b.offer(rest % 3)
			}
			rest /= 3
		}
		b.drain()
	}
}

func TestLanesMany(t *testing.T) { // P3.2, P3.3
	draw := rand.New(rand.NewPCG(3, 3))
	for _, room := range []int{1, 2, 5, 12, api.MaxLanes} {
		b := newBoth(t, room)
		for i := range 20000 {
			// Now and then it is mostly offered, now and then mostly taken, so that the lanes fill up and run empty.
			grows := i/max(50, 2*room)%2 == 0
			switch {
			case draw.IntN(500) == 0:
				b.drain()
			case grows == (draw.IntN(4) > 0):
				b.offer(min(1, draw.IntN(4)))
			default:
				b.take()
			}
		}
		b.lanes.Shut()
		b.plain.shut = true
		b.offer(usual)
		b.take()
		b.offer(urgent)
		b.drain()
	}
}
