package spot_test

import (
	"math"
	"math/rand/v2"
	"slices"
	"strings"
	"testing"
	"unsafe"

	"touchstone/api"
	"touchstone/spot"
)

// texts are all texts of at most so many of these bytes.
func texts(bytes string, most int) []string {
	out := []string{""}
	for from := 0; most > 0; most-- {
		to := len(out)
		for _, s := range out[from:to] {
			for i := range len(bytes) {
				out = append(out, s+bytes[i:i+1])
			}
		}
		from = to
	}
	return out
}

// walk are the spots of all places, gone through byte by byte.
func walk(s string) []spot.Spot {
	p := spot.Spot{Line: 1, Byte: 1}
	out := []spot.Spot{p}
	for i := range len(s) {
		p.Byte++
		if s[i] == '\n' {
			p = spot.Spot{Line: p.Line + 1, Byte: 1}
		}
		out = append(out, p)
	}
	return out
}

// wantSpots holds At and Place of all places and spots, and of those beside them, against the spots of s by place.
func wantSpots(t *testing.T, s string, spots []spot.Spot) {
	t.Helper()
	for place := -2; place <= len(s)+2; place++ {
		want, wantE := spot.Spot{}, api.ErrRange
		if place >= 0 && place <= len(s) {
			want, wantE = spots[place], api.OK
		}
		if p, e := spot.At(s, place); p != want || e != wantE {
			t.Fatalf("At(%q, %d): got %v %d, want %v", s, place, p, e, want)
		}
	}
	for line := -1; line <= len(s)+2; line++ {
		for b := -1; b <= len(s)+2; b++ {
			p := spot.Spot{Line: line, Byte: b}
			want, wantE := slices.Index(spots, p), api.OK
			if want < 0 {
				want, wantE = 0, api.ErrRange
			}
			if place, e := spot.Place(s, p); place != want || e != wantE {
				t.Fatalf("Place(%q, %v): got %d %d, want %d", s, p, place, e, want)
			}
		}
	}
}

func TestSpots(t *testing.T) { // P4.1
	wantSpots(t, "", []spot.Spot{{1, 1}})
	wantSpots(t, "\n", []spot.Spot{{1, 1}, {2, 1}})
	wantSpots(t, "ab", []spot.Spot{{1, 1}, {1, 2}, {1, 3}})
	wantSpots(t, "ab\n\nc", []spot.Spot{{1, 1}, {1, 2}, {1, 3}, {2, 1}, {3, 1}, {3, 2}})
	wantSpots(t, "ab\nc\n", []spot.Spot{{1, 1}, {1, 2}, {1, 3}, {2, 1}, {2, 2}, {3, 1}})
}

func TestLinesEndBehind0aAlone(t *testing.T) { // P4.1
	const s = "a\r\x0b\x0c\x00\xc2\x85\xe2\x80\xa8é\xff\r\nb"
	for place := range len(s) - 1 {
		if p, e := spot.At(s, place); p != (spot.Spot{Line: 1, Byte: place + 1}) || e != api.OK {
			t.Error(place, p, e)
		}
	}
	for i, want := range []string{s[:len(s)-2], "b"} {
		if line, e := spot.Line(s, i+1); line != want || e != api.OK {
			t.Errorf("%d: %q %d", i+1, line, e)
		}
	}
}

func TestSpotsOfAllShortTexts(t *testing.T) { // P4.1
	for _, s := range texts("a\n", 8) {
		wantSpots(t, s, walk(s))
	}
	for _, s := range texts("\r\n\xff", 4) {
		wantSpots(t, s, walk(s))
	}
}

func TestSpotsFarOff(t *testing.T) { // P4.1
	for _, s := range []string{"", "a", "\n", "ab\nc", "\n\n\n"} {
		for _, n := range []int{math.MinInt, math.MinInt + 1, math.MinInt + 2, math.MinInt + 5, -1 << 32, 1 << 32, math.MaxInt - 5, math.MaxInt - 1, math.MaxInt} {
			if p, e := spot.At(s, n); p != (spot.Spot{}) || e != api.ErrRange {
				t.Errorf("At(%q, %d): got %v %d", s, n, p, e)
			}
			if line, e := spot.Line(s, n); line != "" || e != api.ErrRange {
				t.Errorf("Line(%q, %d): got %q %d", s, n, line, e)
			}
			for k := -1; k <= 5; k++ {
				for _, p := range []spot.Spot{{n, k}, {k, n}, {n, n}, {n, -n}} {
					if place, e := spot.Place(s, p); place != 0 || e != api.ErrRange {
						t.Errorf("Place(%q, %v): got %d %d", s, p, place, e)
					}
				}
			}
		}
	}
}

func TestLine(t *testing.T) { // P4.1
	for _, s := range append(texts("a\n", 8), texts("\r\n\xff", 4)...) {
		lines := strings.Split(s, "\n")
		for n := -1; n <= len(lines)+2; n++ {
			want, wantE := "", api.ErrRange
			if n >= 1 && n <= len(lines) {
				want, wantE = lines[n-1], api.OK
			}
			if line, e := spot.Line(s, n); line != want || e != wantE {
				t.Fatalf("Line(%q, %d): got %q %d, want %q %d", s, n, line, e, want, wantE)
			}
		}
	}
}

// TestLongTexts: no limit is named for the texts that are asked, other than by Put.
func TestLongTexts(t *testing.T) { // P4.1, P4.2
	s := strings.Repeat("abc\n", api.MaxText)
	lines := api.MaxText + 1
	if p, e := spot.At(s, len(s)); p != (spot.Spot{Line: lines, Byte: 1}) || e != api.OK {
		t.Error(p, e)
	}
	if place, e := spot.Place(s, spot.Spot{Line: lines - 1, Byte: 4}); place != len(s)-1 || e != api.OK {
		t.Error(place, e)
	}
	if line, e := spot.Line(s, lines-1); line != "abc" || e != api.OK {
		t.Error(line, e)
	}
	all := spot.Span{From: 1, To: len(s) - 1}
	if rest, e := spot.Cut(s, all); rest != "a\n" || e != api.OK {
		t.Error(rest, e)
	}
	if rest, e := spot.Cut(s); rest != s || e != api.OK {
		t.Error(len(rest), e)
	}
	if l, e := spot.Pick(s, all); len(l) != 1 || l[0] != s[1:len(s)-1] || e != api.OK {
		t.Error(len(l), e)
	}
}

// wantPut holds that edits are right, what comes of them, and that Pick and Cut turn it round.
func wantPut(t *testing.T, s string, edits []spot.Edit, want string, spans []spot.Span) {
	t.Helper()
	got, l, e := spot.Put(s, edits...)
	if got != want || !slices.Equal(l, spans) || e != api.OK {
		t.Fatalf("Put(%q, %v): got %q %v %d, want %q %v", s, edits, got, l, e, want, spans)
	}
	picked, e := spot.Pick(got, l...)
	if len(picked) != len(edits) || e != api.OK {
		t.Fatalf("Pick(%q, %v): got %q %d", got, l, picked, e)
	}
	for i, edit := range edits {
		if picked[i] != edit.Text {
			t.Fatalf("Pick(%q, %v): got %q, want %v", got, l, picked, edits)
		}
	}
	if rest, e := spot.Cut(got, l...); rest != s || e != api.OK {
		t.Fatalf("Cut(%q, %v): got %q %d, want %q", got, l, rest, e, s)
	}
}

// refusePut holds that edits aren't right, and that nothing stands beside the error.
func refusePut(t *testing.T, s string, edits ...spot.Edit) {
	t.Helper()
	if got, spans, e := spot.Put(s, edits...); got != "" || len(spans) != 0 || e != api.ErrForm {
		t.Fatalf("Put of %d bytes and %d edits: got %d bytes %v %d", len(s), len(edits), len(got), spans, e)
	}
}

// refuseSpans holds that neither Cut nor Pick takes spans, and that nothing stands beside the error.
func refuseSpans(t *testing.T, s string, spans ...spot.Span) {
	t.Helper()
	if got, e := spot.Cut(s, spans...); got != "" || e != api.ErrForm {
		t.Fatalf("Cut(%q, %v): got %q %d", s, spans, got, e)
	}
	if got, e := spot.Pick(s, spans...); len(got) != 0 || e != api.ErrForm {
		t.Fatalf("Pick(%q, %v): got %q %d", s, spans, got, e)
	}
}

func TestPut(t *testing.T) { // P4.2
	wantPut(t, "ab", []spot.Edit{{1, "x"}, {2, "yz"}}, "axbyz", []spot.Span{{1, 2}, {3, 5}})
	wantPut(t, "ab", nil, "ab", nil)
	wantPut(t, "", nil, "", nil)
	wantPut(t, "", []spot.Edit{{0, "x"}}, "x", []spot.Span{{0, 1}})
	wantPut(t, "ab", []spot.Edit{{0, "xyz"}}, "xyzab", []spot.Span{{0, 3}})
	wantPut(t, "ab", []spot.Edit{{2, "\n"}}, "ab\n", []spot.Span{{2, 3}})
	wantPut(t, "\xc3\xa9", []spot.Edit{{1, "\x00\xff"}}, "\xc3\x00\xff\xa9", []spot.Span{{1, 3}})
}

func TestPutTwoAtOnePlace(t *testing.T) { // P4.2
	wantPut(t, "ab", []spot.Edit{{1, "y"}, {1, "x"}, {1, "zz"}}, "ayxzzb", []spot.Span{{1, 2}, {2, 3}, {3, 5}})
	wantPut(t, "ab", []spot.Edit{{0, "2"}, {0, "1"}, {2, "3"}, {2, "3"}}, "21ab33", []spot.Span{{0, 1}, {1, 2}, {4, 5}, {5, 6}})
	wantPut(t, "", []spot.Edit{{0, "b"}, {0, "a"}}, "ba", []spot.Span{{0, 1}, {1, 2}})
}

func TestPutWrong(t *testing.T) { // P4.2
	x := func(at int) spot.Edit { return spot.Edit{At: at, Text: "x"} }
	for _, at := range []int{math.MinInt, -1, 3, 4, math.MaxInt} {
		refusePut(t, "ab", x(at))
		refusePut(t, "ab", x(0), x(at))
		refusePut(t, "ab", x(at), x(2))
	}
	refusePut(t, "", x(1))
	refusePut(t, "", spot.Edit{})
	for at := range 3 {
		refusePut(t, "ab", spot.Edit{At: at})
		refusePut(t, "ab", x(0), spot.Edit{At: at}, x(2))
	}
	refusePut(t, "ab", x(1), x(0))
	refusePut(t, "ab", x(2), x(1))
	refusePut(t, "ab", x(0), x(2), x(1))
	refusePut(t, "ab", x(1), x(0), x(2))
}

func TestPutMaxText(t *testing.T) { // P4.2
	full := strings.Repeat("a", api.MaxText)
	for _, n := range []int{0, 1, 2, 1000, api.MaxText - 2, api.MaxText - 1} {
		s, text := full[:n], full[n:]
		wantPut(t, s, []spot.Edit{{n, text}}, full, []spot.Span{{n, api.MaxText}})
		refusePut(t, s, spot.Edit{At: n, Text: text + "a"})
		refusePut(t, s+"a", spot.Edit{At: n, Text: text})
		refusePut(t, s, spot.Edit{At: 0, Text: text}, spot.Edit{At: n, Text: "a"})
		refusePut(t, s, spot.Edit{At: 0, Text: "a"}, spot.Edit{At: n, Text: text})
	}
	wantPut(t, full[2:], []spot.Edit{{0, "b"}, {0, "c"}}, "bc"+full[2:], []spot.Span{{0, 1}, {1, 2}})
	wantPut(t, full, nil, full, nil)
	refusePut(t, full+"a")
	refusePut(t, full, spot.Edit{At: 0, Text: "a"})
	big := strings.Repeat("a", 1<<24)
	refusePut(t, "ab", slices.Repeat([]spot.Edit{{1, big}}, 1000)...)
}

// marked is a text, written byte by byte, each with a mark: the place of the edit that it is of, or -1.
type marked struct {
	text  []byte
	marks []int
}

func (x *marked) write(text string, mark int) {
	for i := range len(text) {
		x.text = append(x.text, text[i])
		x.marks = append(x.marks, mark)
	}
}

// spans are from the first to the last byte of each of n marks.
func (x *marked) spans(n int) []spot.Span {
	var out []spot.Span
	for i := range n {
		from := slices.Index(x.marks, i)
		to := from
		for to < len(x.marks) && x.marks[to] == i {
			to++
		}
		out = append(out, spot.Span{From: from, To: to})
	}
	return out
}

// put is what Put should make of edits: at each place all that are put in there.
func put(s string, edits []spot.Edit) (string, []spot.Span) {
	x := &marked{}
	for place := range len(s) + 1 {
		for i, edit := range edits {
			if edit.At == place {
				x.write(edit.Text, i)
			}
		}
		if place < len(s) {
			x.write(s[place:place+1], -1)
		}
	}
	return string(x.text), x.spans(len(edits))
}

func TestPutAllFewEdits(t *testing.T) { // P4.2
	var edits []spot.Edit
	for at := -1; at <= 4; at++ {
		for _, text := range []string{"", "x", "yz"} {
			edits = append(edits, spot.Edit{At: at, Text: text})
		}
	}
	right := func(s string, l []spot.Edit) bool {
		for i, edit := range l {
			if edit.Text == "" || edit.At < 0 || edit.At > len(s) || i > 0 && edit.At < l[i-1].At {
				return false
			}
		}
		return true
	}
	for _, s := range []string{"", "a", "ab", "a\nb"} {
		for _, a := range edits {
			for _, b := range edits {
				for _, c := range edits {
					l := []spot.Edit{a, b, c}
					if !right(s, l) {
						refusePut(t, s, l...)
						continue
					}
					want, spans := put(s, l)
					wantPut(t, s, l, want, spans)
				}
			}
		}
	}
}

func TestPutMany(t *testing.T) { // P4.2
	draw := rand.New(rand.NewPCG(4, 4))
	for range 300 {
		s := strings.Repeat("ab\ncd", draw.IntN(20))
		edits := make([]spot.Edit, draw.IntN(60))
		for i := range edits {
			edits[i] = spot.Edit{At: draw.IntN(len(s) + 1), Text: "{x\n<="[:1+draw.IntN(5)]}
		}
		slices.SortStableFunc(edits, func(a, b spot.Edit) int { return a.At - b.At })
		want, spans := put(s, edits)
		wantPut(t, s, edits, want, spans)
	}
}

func TestCutAndPick(t *testing.T) { // P4.2
	for i, c := range []struct {
		s, rest string
		spans   []spot.Span
		picked  []string
	}{
		{"abcdef", "abcdef", nil, nil},
		{"", "", nil, nil},
		{"abcdef", "", []spot.Span{{0, 6}}, []string{"abcdef"}},
		{"abcdef", "bcdef", []spot.Span{{0, 1}}, []string{"a"}},
		{"abcdef", "abcde", []spot.Span{{5, 6}}, []string{"f"}},
		{"abcdef", "adf", []spot.Span{{1, 3}, {4, 5}}, []string{"bc", "e"}},
		{"abcdef", "af", []spot.Span{{1, 3}, {3, 4}, {4, 5}}, []string{"bc", "d", "e"}},
		{"abcdef", "", []spot.Span{{0, 3}, {3, 6}}, []string{"abc", "def"}},
		{"\xc3\xa9\n", "\xc3", []spot.Span{{1, 2}, {2, 3}}, []string{"\xa9", "\n"}},
	} {
		if rest, e := spot.Cut(c.s, c.spans...); rest != c.rest || e != api.OK {
			t.Errorf("%d: Cut: got %q %d, want %q", i, rest, e, c.rest)
		}
		if picked, e := spot.Pick(c.s, c.spans...); !slices.Equal(picked, c.picked) || e != api.OK {
			t.Errorf("%d: Pick: got %q %d, want %q", i, picked, e, c.picked)
		}
	}
}

func TestCutAndPickWrong(t *testing.T) { // P4.2
	for _, n := range []int{math.MinInt, -1, 0, 1, 3, 4, math.MaxInt} {
		refuseSpans(t, "abc", spot.Span{From: n, To: n})
	}
	for _, wrong := range []spot.Span{{-1, 1}, {-2, -1}, {math.MinInt, 2}, {2, 4}, {3, 4}, {4, 5}, {0, math.MaxInt}, {2, 1}, {3, 0}, {1, -1}, {math.MaxInt, math.MinInt}} {
		refuseSpans(t, "abc", wrong)
		refuseSpans(t, "abc", spot.Span{From: 0, To: 1}, wrong)
		refuseSpans(t, "abc", wrong, spot.Span{From: 2, To: 3})
	}
	refuseSpans(t, "", spot.Span{})
	refuseSpans(t, "", spot.Span{From: 0, To: 1})
	refuseSpans(t, "abcd", spot.Span{From: 2, To: 3}, spot.Span{From: 0, To: 1})
	refuseSpans(t, "abcd", spot.Span{From: 1, To: 2}, spot.Span{From: 0, To: 1})
	refuseSpans(t, "abcd", spot.Span{From: 0, To: 2}, spot.Span{From: 0, To: 2})
	refuseSpans(t, "abcd", spot.Span{From: 0, To: 2}, spot.Span{From: 1, To: 3})
	refuseSpans(t, "abcd", spot.Span{From: 1, To: 2}, spot.Span{From: 0, To: 3})
	refuseSpans(t, "abcd", spot.Span{From: 0, To: 1}, spot.Span{From: 2, To: 3}, spot.Span{From: 1, To: 2})
}

func TestCutAndPickAllFewSpans(t *testing.T) { // P4.2
	const s = "abc"
	var spans []spot.Span
	for from := -1; from <= 4; from++ {
		for to := -1; to <= 4; to++ {
			spans = append(spans, spot.Span{From: from, To: to})
		}
	}
	right := func(l []spot.Span) bool {
		for i, span := range l {
			if span.From < 0 || span.To > len(s) || span.From >= span.To || i > 0 && span.From < l[i-1].To {
				return false
			}
		}
		return true
	}
	for _, a := range spans {
		for _, b := range spans {
			for _, c := range spans {
				l := []spot.Span{a, b, c}
				if !right(l) {
					refuseSpans(t, s, l...)
					continue
				}
				rest := s[:a.From] + s[a.To:b.From] + s[b.To:c.From] + s[c.To:]
				if got, e := spot.Cut(s, l...); got != rest || e != api.OK {
					t.Fatalf("Cut(%q, %v): got %q %d", s, l, got, e)
				}
				picked := []string{s[a.From:a.To], s[b.From:b.To], s[c.From:c.To]}
				if got, e := spot.Pick(s, l...); !slices.Equal(got, picked) || e != api.OK {
					t.Fatalf("Pick(%q, %v): got %q %d", s, l, got, e)
				}
			}
		}
	}
}

func TestArgumentsStay(t *testing.T) { // P4.2
	edits := []spot.Edit{{0, "x"}, {1, "y"}, {9, "z"}}
	spans := []spot.Span{{0, 1}, {1, 2}, {9, 9}}
	keptEdits, keptSpans := slices.Clone(edits), slices.Clone(spans)
	for n := range 4 {
		spot.Put("ab", edits[:n]...)
		spot.Cut("ab", spans[:n]...)
		spot.Pick("ab", spans[:n]...)
	}
	if !slices.Equal(edits, keptEdits) || !slices.Equal(spans, keptSpans) {
		t.Error(edits, spans)
	}
}

// within tells whether some of a text's memory is another one's.
func within(a, b string) bool {
	if a == "" || b == "" {
		return false
	}
	from := func(s string) uintptr { return uintptr(unsafe.Pointer(unsafe.StringData(s))) }
	return from(a) < from(b)+uintptr(len(b)) && from(b) < from(a)+uintptr(len(a))
}

func TestAnswersAreNewMemory(t *testing.T) { // P4.1, P4.2
	s := strings.Clone("ab\ncd\nef")
	all := spot.Span{From: 0, To: len(s)}
	var told []string
	for range 2 {
		line, _ := spot.Line(s, 2)
		last, _ := spot.Line(s, 3)
		same, _, _ := spot.Put(s)
		uncut, _ := spot.Cut(s)
		tail, _ := spot.Cut(s, spot.Span{From: 0, To: 3})
		picked, _ := spot.Pick(s, all)
		text := strings.Clone("text")
		alone, _, _ := spot.Put("", spot.Edit{At: 0, Text: text})
		if within(alone, text) {
			t.Error("Put tells an edit's memory")
		}
		told = append(told, line, last, same, uncut, tail, picked[0], alone)
	}
	for i, a := range told {
		if a == "" || within(a, s) {
			t.Errorf("%d: %q", i, a)
		}
		for _, b := range told[:i] {
			if within(a, b) {
				t.Errorf("%q and %q", a, b)
			}
		}
	}
}

func TestListsAreNewMemory(t *testing.T) { // P4.2
	_, first, _ := spot.Put("ab", spot.Edit{At: 1, Text: "x"}, spot.Edit{At: 2, Text: "y"})
	_, second, _ := spot.Put("ab", spot.Edit{At: 1, Text: "x"}, spot.Edit{At: 2, Text: "y"})
	clear(first[:cap(first)])
	if !slices.Equal(second, []spot.Span{{1, 2}, {3, 4}}) {
		t.Error(second)
	}
	one, _ := spot.Pick("axby", second...)
	other, _ := spot.Pick("axby", second...)
	clear(one[:cap(one)])
	if !slices.Equal(other, []string{"x", "y"}) || !slices.Equal(second, []spot.Span{{1, 2}, {3, 4}}) {
		t.Error(other, second)
	}
}
