package bag_test

import (
	"maps"
	"math"
	"slices"
	"testing"

	"touchstone/bag"
)

// wantMap holds a map against Go's one, and asks it of each of some keys.
func wantMap(t *testing.T, what string, m *bag.Map[int, string], is map[int]string, some ...int) {
	t.Helper()
	keys := slices.Sorted(maps.Keys(is))
	var pairs []bag.Pair[int, string]
	for _, k := range keys {
		pairs = append(pairs, bag.Pair[int, string]{Key: k, Value: is[k]})
	}
	if m.Len() != len(is) || !slices.Equal(m.Keys(), keys) || !slices.Equal(m.Pairs(), pairs) {
		t.Fatalf("%s: got %d %v %v, want %v", what, m.Len(), m.Keys(), m.Pairs(), pairs)
	}
	for _, k := range append(some, keys...) {
		v, ok := m.Get(k)
		if w, has := is[k]; v != w || ok != has {
			t.Fatalf("%s: Get(%d) is %q %v of %v", what, k, v, ok, pairs)
		}
	}
}

func TestMap(t *testing.T) { // P2.2
	m := bag.NewMap[int, string]()
	wantMap(t, "new", m, nil, 0, 1)
	if m.Drop(0) {
		t.Error("Drop of nothing")
	}
	if !m.Put(2, "two") || !m.Put(-1, "less") || !m.Put(0, "") {
		t.Error("Put of new keys")
	}
	wantMap(t, "put", m, map[int]string{-1: "less", 0: "", 2: "two"}, 1)
	if m.Put(2, "again") || m.Put(0, "nought") {
		t.Error("Put of keys that have a value")
	}
	wantMap(t, "put again", m, map[int]string{-1: "less", 0: "nought", 2: "again"}, 1)
	if !m.Drop(0) || m.Drop(0) || m.Drop(1) {
		t.Error("Drop")
	}
	wantMap(t, "dropped", m, map[int]string{-1: "less", 2: "again"}, 0, 1)
	if !m.Put(0, "back") || !m.Drop(2) || !m.Drop(-1) {
		t.Error("Put of what was dropped")
	}
	wantMap(t, "back", m, map[int]string{0: "back"}, -1, 2)
}

func TestMapZeroValuesAreValues(t *testing.T) { // P2.2
	m := bag.NewMap[string, bool]()
	if v, ok := m.Get(""); v || ok {
		t.Error(v, ok)
	}
	if !m.Put("", false) || m.Put("", false) || m.Len() != 1 {
		t.Error("Put", m.Pairs())
	}
	if v, ok := m.Get(""); v || !ok {
		t.Error(v, ok)
	}
	if !m.Drop("") || m.Len() != 0 {
		t.Error("Drop", m.Pairs())
	}
}

func TestMapKeysRise(t *testing.T) { // P2.2
	texts := bag.NewMap[string, int]()
	for i, k := range []string{"é", "b", "", "\xff", "a\x00", "Z", "a"} {
		texts.Put(k, i)
	}
	if k := texts.Keys(); !slices.Equal(k, []string{"", "Z", "a", "a\x00", "b", "é", "\xff"}) {
		t.Errorf("%q", k)
	}
	numbers := bag.NewMap[uint64, []int]()
	for _, k := range []uint64{math.MaxUint64, 0, 1 << 63, 1<<63 - 1} {
		numbers.Put(k, []int{int(k)})
	}
	if k := numbers.Keys(); !slices.Equal(k, []uint64{0, 1<<63 - 1, 1 << 63, math.MaxUint64}) {
		t.Error(k)
	}
	if p := numbers.Pairs(); len(p) != 4 || p[0].Value[0] != 0 || p[3].Value[0] != -1 {
		t.Error(p)
	}
}

func TestMapCopy(t *testing.T) { // P2.2
	m := bag.NewMap[int, string]()
	wantMap(t, "copy of nothing", m.Copy(), nil, 0)
	if e := m.Copy(); !e.Put(1, "a") || m.Len() != 0 {
		t.Error("copy of nothing")
	}
	m.Put(1, "a")
	m.Put(2, "b")
	c := m.Copy()
	m.Put(1, "x")
	m.Put(3, "y")
	m.Drop(2)
	wantMap(t, "copy", c, map[int]string{1: "a", 2: "b"}, 3)
	c.Put(4, "z")
	c.Put(2, "c")
	c.Drop(1)
	wantMap(t, "m", m, map[int]string{1: "x", 3: "y"}, 2, 4)
	wantMap(t, "copy", c, map[int]string{2: "c", 4: "z"}, 1, 3)
}

func TestMapCopyHasTheSameValues(t *testing.T) { // P2.2
	m := bag.NewMap[int, *int]()
	n := new(int)
	m.Put(1, n)
	if v, ok := m.Copy().Get(1); v != n || !ok {
		t.Error(v, ok)
	}
}

func TestMapTellsNewMemory(t *testing.T) { // P2.2
	m := bag.NewMap[int, string]()
	m.Put(2, "b")
	m.Put(1, "a")
	pairs, keys := m.Pairs(), m.Keys()
	scribble(m.Pairs(), bag.Pair[int, string]{Key: 9, Value: "z"})
	scribble(m.Keys(), 9)
	wantMap(t, "m", m, map[int]string{1: "a", 2: "b"}, 9)
	if pairs[0].Key != 1 || pairs[1].Value != "b" || !slices.Equal(keys, []int{1, 2}) {
		t.Error(pairs, keys)
	}
}

func TestMapsMany(t *testing.T) { // P2.2
	draw := draws()
	m, is := bag.NewMap[int, string](), map[int]string{}
	for i := range 4000 {
		k := draw(60) - 30
		_, had := is[k]
		if draw(5) < 3 {
			v := string(rune('a' + draw(26)))
			if m.Put(k, v) == had {
				t.Fatal(i, "Put", k)
			}
			is[k] = v
		} else {
			if m.Drop(k) != had {
				t.Fatal(i, "Drop", k)
			}
			delete(is, k)
		}
		wantMap(t, "m", m, is, k, draw(60)-30)
	}
}
