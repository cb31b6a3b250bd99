package lex_test

import (
	"math/rand/v2"
	"regexp"
	"slices"
	"strings"
	"testing"
	"unsafe"

	"touchstone/api"
	"touchstone/lex"
)

// allKeys and allSigns are the chapter's, in its order.
const (
	allKeys  = "import pub fun let in if then else assert true false not int bool res"
	allSigns = "( ) { } , : ; . + - * / % = <> < <= > >= && || =>"
)

// texts are all texts of at most so many of these bytes.
func texts(bytes string, most int) []string {
	out := []string{""}
	for from := 0; most > 0; most-- {
		to := len(out)
		for _, s := range out[from:to] {
			for i := range len(bytes) {
				out = append(out, s+bytes[i:i+1])
			}
		}
		from = to
	}
	return out
}

// model is a plainer lexer: patterns of what stands between tokens, and of each kind of token, the longest that begins at a place.
type model struct {
	lead, word, number, sign *regexp.Regexp
}

func newModel() *model {
	var signs []string
	for _, sign := range strings.Fields(allSigns) {
		signs = append(signs, regexp.QuoteMeta(sign))
	}
	longest := func(pattern string) *regexp.Regexp {
		r := regexp.MustCompile("^(?:" + pattern + ")")
		r.Longest()
		return r
	}
	return &model{
		lead:   longest("(?:[ \t\r\n]|--[^\n]*)*"),
		word:   longest("[a-zA-Z][a-zA-Z0-9_]*"),
		number: longest("[0-9]+"),
		sign:   longest(strings.Join(signs, "|")),
	}
}

// next is the kind and text of what begins rest, and its error.
func (m *model) next(rest string) (int, string, api.Errno) {
	if rest == "" {
		return lex.End, "", api.OK
	}
	if word := m.word.FindString(rest); word != "" {
		if slices.Contains(strings.Fields(allKeys), word) {
			return lex.Key, word, api.OK
		}
		if len(word) > 40 {
			return 0, "", api.ErrLex
		}
		return lex.Word, word, api.OK
	}
	if number := m.number.FindString(rest); number != "" {
		if len(number) > 60 || number != "0" && strings.HasPrefix(number, "0") {
			return 0, "", api.ErrNumber
		}
		return lex.Number, number, api.OK
	}
	if sign := m.sign.FindString(rest); sign != "" {
		return lex.Sign, sign, api.OK
	}
	return 0, "", api.ErrLex
}

func (m *model) lex(s string) ([]lex.Token, lex.Fault) {
	var out []lex.Token
	for at := 0; ; {
		lead := m.lead.FindString(s[at:])
		at += len(lead)
		kind, text, e := m.next(s[at:])
		if e != api.OK {
			return nil, lex.Fault{E: e, At: at}
		}
		out = append(out, lex.Token{Kind: kind, Lead: lead, Text: text, At: at})
		if kind == lex.End {
			return out, lex.Fault{}
		}
		at += len(text)
	}
}

// wantTokens holds that a text has just these tokens, and that they are whole.
func wantTokens(t *testing.T, s string, want ...lex.Token) {
	t.Helper()
	l, f := lex.Lex(s)
	if f != (lex.Fault{}) || !slices.Equal(l, want) {
		t.Fatalf("Lex(%.200q): got %.500v %v, want %.500v", s, l, f, want)
	}
	if whole := lex.Whole(l); whole != s {
		t.Fatalf("Whole of the tokens of %.200q: got %.200q", s, whole)
	}
}

// wantFault holds that a text has that fault, and no tokens.
func wantFault(t *testing.T, s string, e api.Errno, at int) {
	t.Helper()
	if l, f := lex.Lex(s); f != (lex.Fault{E: e, At: at}) || len(l) != 0 {
		t.Fatalf("Lex(%.200q): got %.200v %v, want %d at %d", s, l, f, e, at)
	}
}

// wantOne holds that a text is one token of that kind, alone and beside others.
func wantOne(t *testing.T, kind int, text string) {
	t.Helper()
	n := len(text)
	wantTokens(t, text, lex.Token{Kind: kind, Text: text}, lex.Token{Kind: lex.End, At: n})
	wantTokens(t, ";"+text+" ;",
		lex.Token{Kind: lex.Sign, Text: ";"}, lex.Token{Kind: kind, Text: text, At: 1},
		lex.Token{Kind: lex.Sign, Lead: " ", Text: ";", At: n + 2}, lex.Token{Kind: lex.End, At: n + 3})
}

// wantModel holds a text's tokens against the plainer lexer's.
func wantModel(t *testing.T, m *model, s string) {
	t.Helper()
	want, f := m.lex(s)
	if f.E != api.OK {
		wantFault(t, s, f.E, f.At)
		return
	}
	wantTokens(t, s, want...)
}

func TestKinds(t *testing.T) { // P5.1
	if lex.Word != 1 || lex.Key != 2 || lex.Number != 3 || lex.Sign != 4 || lex.End != 5 {
		t.Error(lex.Word, lex.Key, lex.Number, lex.Sign, lex.End)
	}
}

func TestLex(t *testing.T) { // P5.1, P5.2
	wantTokens(t, "let x=-1 --z",
		lex.Token{Kind: lex.Key, Text: "let"}, lex.Token{Kind: lex.Word, Lead: " ", Text: "x", At: 4},
		lex.Token{Kind: lex.Sign, Text: "=", At: 5}, lex.Token{Kind: lex.Sign, Text: "-", At: 6},
		lex.Token{Kind: lex.Number, Text: "1", At: 7}, lex.Token{Kind: lex.End, Lead: " --z", At: 12})
	wantTokens(t, "\n-- a\n\tf.x_1--b--\r\n",
		lex.Token{Kind: lex.Word, Lead: "\n-- a\n\t", Text: "f", At: 7}, lex.Token{Kind: lex.Sign, Text: ".", At: 8},
		lex.Token{Kind: lex.Word, Text: "x_1", At: 9}, lex.Token{Kind: lex.End, Lead: "--b--\r\n", At: 19})
	wantTokens(t, "", lex.Token{Kind: lex.End})
}

func TestWords(t *testing.T) { // P5.1
	for _, text := range []string{"a", "z", "A", "Z", "a_", "a__b", "x9", "Q0_q", "Let", "LET", "lets", "inn", "in_", "in1", "i", "im", "resx", "importpub", "fun_", "trueFalse"} {
		wantOne(t, lex.Word, text)
	}
	for _, text := range strings.Fields(allKeys) {
		wantOne(t, lex.Key, text)
		wantOne(t, lex.Word, text+"_")
		wantOne(t, lex.Word, text+"0")
		wantOne(t, lex.Word, "a"+text)
		wantOne(t, lex.Word, strings.ToUpper(text))
	}
}

func TestWordEndsBehindMaxName(t *testing.T) { // P5.1
	for _, text := range []string{strings.Repeat("a", 39), strings.Repeat("a", 40), "a" + strings.Repeat("_", 39), "Z" + strings.Repeat("9", 39), "import" + strings.Repeat("s", 34)} {
		wantOne(t, lex.Word, text)
	}
	for _, text := range []string{strings.Repeat("a", 41), "a" + strings.Repeat("_", 40), "Z" + strings.Repeat("9", 40), "import" + strings.Repeat("s", 35), strings.Repeat("a", 80), strings.Repeat("a", api.MaxText)} {
		wantFault(t, text, api.ErrLex, 0)
		if len(text) < api.MaxText-10 {
			wantFault(t, "x --\n"+text+" 01", api.ErrLex, 5)
		}
	}
}

func TestNumbers(t *testing.T) { // P5.1
	for _, text := range []string{"0", "1", "9", "10", "100", "1234567890", strings.Repeat("9", 59), strings.Repeat("9", 60), "1" + strings.Repeat("0", 59)} {
		wantOne(t, lex.Number, text)
	}
	for _, text := range []string{"00", "01", "007", "0" + strings.Repeat("1", 59), "0" + strings.Repeat("1", 60), strings.Repeat("0", 60), strings.Repeat("0", 61), strings.Repeat("9", 61), "1" + strings.Repeat("0", 60), strings.Repeat("1", api.MaxText)} {
		wantFault(t, text, api.ErrNumber, 0)
		if len(text) < api.MaxText-10 {
			wantFault(t, "- "+text+"x !", api.ErrNumber, 2)
		}
	}
	wantTokens(t, "12a0", lex.Token{Kind: lex.Number, Text: "12"}, lex.Token{Kind: lex.Word, Text: "a0", At: 2}, lex.Token{Kind: lex.End, At: 4})
	wantTokens(t, "0if", lex.Token{Kind: lex.Number, Text: "0"}, lex.Token{Kind: lex.Key, Text: "if", At: 1}, lex.Token{Kind: lex.End, At: 3})
	wantTokens(t, "1.0", lex.Token{Kind: lex.Number, Text: "1"}, lex.Token{Kind: lex.Sign, Text: ".", At: 1}, lex.Token{Kind: lex.Number, Text: "0", At: 2}, lex.Token{Kind: lex.End, At: 3})
	wantFault(t, "1_", api.ErrLex, 1)
}

func TestSigns(t *testing.T) { // P5.1
	for _, text := range strings.Fields(allSigns) {
		wantOne(t, lex.Sign, text)
	}
	for s, want := range map[string]string{"<<=": "< <=", "<>=": "<> =", "<=>": "<= >", "<==": "<= =", ">=>": ">= >", ">>=": "> >=", "=>=": "=> =", "==>": "= =>", "=<": "= <", "><": "> <", "&&&&": "&& &&", "||||": "|| ||", ":=": ": =", "- -": "- -", "+-": "+ -", "<-": "< -", "->": "- >", "..": ". ."} {
		l, f := lex.Lex(s)
		var got []string
		for _, x := range l {
			got = append(got, x.Text)
		}
		if strings.TrimSpace(strings.Join(got, " ")) != want || f != (lex.Fault{}) {
			t.Errorf("%q: %q %v", s, got, f)
		}
	}
	wantFault(t, "&", api.ErrLex, 0)
	wantFault(t, "|", api.ErrLex, 0)
	wantFault(t, "&&&", api.ErrLex, 2)
	wantFault(t, "|||", api.ErrLex, 2)
	wantFault(t, "& &", api.ErrLex, 0)
	wantFault(t, "|--\n|", api.ErrLex, 0)
}

func TestAllSignsSideBySide(t *testing.T) { // P5.1
	m := newModel()
	signs := append(strings.Fields(allSigns), "&", "|")
	for _, a := range signs {
		for _, b := range signs {
			for _, c := range signs {
				wantModel(t, m, a+b+c)
			}
		}
	}
}

func TestBytesWithWhichTokensBegin(t *testing.T) { // P5.1
	begins := "abcdefghijklmnopqrstuvwxyzABCDEFGHIJKLMNOPQRSTUVWXYZ0123456789(){},:;.+-*/%=<>"
	for i := range 256 {
		s := string([]byte{byte(i)})
		switch {
		case strings.Contains(begins, s):
			if l, f := lex.Lex(s); len(l) != 2 || l[0].Text != s || f != (lex.Fault{}) {
				t.Errorf("%q: %v %v", s, l, f)
			}
		case strings.Contains(" \t\r\n", s):
			wantTokens(t, s, lex.Token{Kind: lex.End, Lead: s, At: 1})
		default:
			wantFault(t, s, api.ErrLex, 0)
			wantFault(t, "x 1"+s, api.ErrLex, 3)
			wantFault(t, "x --\n"+s+" 01", api.ErrLex, 5)
		}
	}
	for _, s := range []string{"é", "_a", "\u00a0", "\u2028", "ａ", "٣", "!=", "\"a\"", "[]", "\xff", "\v", "\f"} {
		wantFault(t, s, api.ErrLex, 0)
		wantFault(t, "x "+s, api.ErrLex, 2)
	}
	wantFault(t, "né", api.ErrLex, 1)
	wantFault(t, "1\u0660", api.ErrLex, 1)
}

func TestRemarks(t *testing.T) { // P5.1
	end := func(s string) { wantTokens(t, s, lex.Token{Kind: lex.End, Lead: s, At: len(s)}) }
	for _, s := range []string{"--", "---", "----", "--x", "-- 01 ! & é", "--\n", "--\n--", "--\n\n --\r\n", "\t--a\n--b", "--a--b", "--a\rb", "--\r\x00\v\f\u0085\u2028\xffb"} {
		end(s)
		wantTokens(t, "a"+s, lex.Token{Kind: lex.Word, Text: "a"}, lex.Token{Kind: lex.End, Lead: s, At: 1 + len(s)})
		wantTokens(t, s+"\na", lex.Token{Kind: lex.Word, Lead: s + "\n", Text: "a", At: len(s) + 1}, lex.Token{Kind: lex.End, At: len(s) + 2})
	}
	for i := range 256 {
		s := "--" + string([]byte{byte(i), 'a'})
		if i == '\n' {
			wantTokens(t, s, lex.Token{Kind: lex.Word, Lead: "--\n", Text: "a", At: 3}, lex.Token{Kind: lex.End, At: 4})
			continue
		}
		end(s)
	}
	wantTokens(t, "x--1\n-1", lex.Token{Kind: lex.Word, Text: "x"}, lex.Token{Kind: lex.Sign, Lead: "--1\n", Text: "-", At: 5}, lex.Token{Kind: lex.Number, Text: "1", At: 6}, lex.Token{Kind: lex.End, At: 7})
	wantTokens(t, "<--\n=", lex.Token{Kind: lex.Sign, Text: "<"}, lex.Token{Kind: lex.Sign, Lead: "--\n", Text: "=", At: 4}, lex.Token{Kind: lex.End, At: 5})
	wantFault(t, "--\n!", api.ErrLex, 3)
	wantFault(t, "--!\r\n 00", api.ErrNumber, 6)
}

func TestFirstFault(t *testing.T) { // P5.1
	long, many := strings.Repeat("a", 41), strings.Repeat("1", 61)
	wrong := map[string]api.Errno{"!": api.ErrLex, "&": api.ErrLex, long: api.ErrLex, "01": api.ErrNumber, many: api.ErrNumber}
	for a, e := range wrong {
		for b := range wrong {
			wantFault(t, a+" "+b, e, 0)
			wantFault(t, "let--\n"+a+" x "+b+" end", e, 6)
		}
	}
}

func TestMaxText(t *testing.T) { // P5.1, P5.2
	blanks := strings.Repeat(" ", api.MaxText)
	for _, s := range []string{blanks, strings.Repeat("-", api.MaxText), "--" + strings.Repeat("\xff", api.MaxText-2), strings.Repeat("--\n\n", api.MaxText/4)} {
		wantTokens(t, s, lex.Token{Kind: lex.End, Lead: s, At: api.MaxText})
		wantFault(t, s+" ", api.ErrSize, 0)
		wantFault(t, " "+s, api.ErrSize, 0)
		wantFault(t, "!"+s, api.ErrSize, 0)
		wantFault(t, s+s, api.ErrSize, 0)
	}
	wantFault(t, blanks[1:]+"!", api.ErrLex, api.MaxText-1)
	wantFault(t, blanks[2:]+"00", api.ErrNumber, api.MaxText-2)
	wantFault(t, blanks+"!", api.ErrSize, 0)
	var want []lex.Token
	for at := range api.MaxText {
		want = append(want, lex.Token{Kind: lex.Sign, Text: "(", At: at})
	}
	wantTokens(t, strings.Repeat("(", api.MaxText), append(want, lex.Token{Kind: lex.End, At: api.MaxText})...)
	wantFault(t, strings.Repeat("(", api.MaxText+1), api.ErrSize, 0)
}

func TestAllShortTexts(t *testing.T) { // P5.1, P5.2
	m := newModel()
	for _, s := range texts("a_0-\n >=&", 5) {
		wantModel(t, m, s)
	}
	for _, s := range texts("Zin01|<\r\t.%\xc3{!", 4) {
		wantModel(t, m, s)
	}
}

func TestManyTexts(t *testing.T) { // P5.1, P5.2
	m := newModel()
	draw := rand.New(rand.NewPCG(5, 5))
	parts := slices.Concat(strings.Fields(allKeys), strings.Fields(allSigns), []string{"x", "y_1", "Ab", "0", "7", "120", " ", "\n", "\t\r", "--", "-- a\n", strings.Repeat("n", 40), strings.Repeat("1", 60)})
	rare := []string{"!", "&", "\xff", "_", "0"}
	for range 3000 {
		var s strings.Builder
		for range draw.IntN(40) {
			s.WriteString(parts[draw.IntN(len(parts))])
			if draw.IntN(3) > 0 {
				s.WriteString(" ")
			}
			if draw.IntN(200) == 0 {
				s.WriteString(rare[draw.IntN(len(rare))])
			}
		}
		wantModel(t, m, s.String())
	}
}

func TestWhole(t *testing.T) { // P5.2
	for i, c := range []struct {
		l    []lex.Token
		want string
	}{
		{nil, ""},
		{[]lex.Token{}, ""},
		{[]lex.Token{{}}, ""},
		{[]lex.Token{{Lead: "a", Text: "b"}}, "ab"},
		{[]lex.Token{{Text: "b"}, {Lead: "a"}}, "ba"},
		{[]lex.Token{{Kind: lex.End, Lead: " ", Text: "!", At: 9}, {Kind: -1, Lead: "01", Text: "\xff", At: -3}}, " !01\xff"},
	} {
		if got := lex.Whole(c.l); got != c.want {
			t.Errorf("%d: got %q, want %q", i, got, c.want)
		}
	}
	long := strings.Repeat("a", api.MaxText)
	if got := lex.Whole(slices.Repeat([]lex.Token{{Lead: long, Text: "b"}}, 3)); got != strings.Repeat(long+"b", 3) {
		t.Error(len(got))
	}
}

func TestKeys(t *testing.T) { // P5.3
	want := strings.Fields(allKeys)
	slices.Sort(want)
	for range 2 {
		got := lex.Keys()
		if !slices.Equal(got, want) {
			t.Fatalf("got %q, want %q", got, want)
		}
		// What is done to a list that was told is nothing to the next one.
		clear(got[:cap(got)])
	}
	wantOne(t, lex.Key, "assert")
}

func TestPlain(t *testing.T) { // P5.3
	for _, word := range []string{"x", "Z", "a_", "a1", "x_1__", "resx", "ress", "Let", "LET", "in1", strings.Repeat("a", 40), "b" + strings.Repeat("0", 39)} {
		if !lex.Plain(word) {
			t.Errorf("%q is plain", word)
		}
	}
	for _, word := range []string{"", " ", "\n", " x", "x ", "x\n", "\tx", "x--", "--\nx", "x y", "x.y", "x-", "-x", "(x)", "_", "_x", "1", "0", "1x", "é", "né", "x\x00", "x\xff", "x!", "+", "--", "let x", strings.Repeat("a", 41), strings.Repeat("a", api.MaxText), strings.Repeat("a", api.MaxText+1)} {
		if lex.Plain(word) {
			t.Errorf("%.50q is not plain", word)
		}
	}
	for _, key := range strings.Fields(allKeys) {
		if lex.Plain(key) || lex.Plain(key+" ") || !lex.Plain(key+"_") || !lex.Plain("x"+key) || !lex.Plain(strings.ToUpper(key)) {
			t.Errorf("%q", key)
		}
	}
}

func TestPlainOfAllShortTexts(t *testing.T) { // P5.3
	for _, s := range append(texts("inft_0- ", 5), texts("aZ\n\xff.1", 4)...) {
		l, f := lex.Lex(s)
		want := f.E == api.OK && len(l) == 2 && l[0].Kind == lex.Word && l[0].Text == s
		if got := lex.Plain(s); got != want {
			t.Fatalf("%q: got %t", s, got)
		}
	}
}

func TestArgumentsStay(t *testing.T) { // P5.2
	l := []lex.Token{{Kind: 7, Lead: "a", Text: "b", At: 9}, {}, {Text: "c"}}
	kept := slices.Clone(l)
	for n := range 4 {
		lex.Whole(l[:n])
	}
	if !slices.Equal(l, kept) {
		t.Error(l)
	}
}

// within tells whether some of a text's memory is another one's.
func within(a, b string) bool {
	if a == "" || b == "" {
		return false
	}
	from := func(s string) uintptr { return uintptr(unsafe.Pointer(unsafe.StringData(s))) }
	return from(a) < from(b)+uintptr(len(b)) && from(b) < from(a)+uintptr(len(a))
}

func TestAnswersAreNewMemory(t *testing.T) { // P5.1, P5.2
	s := strings.Clone("let x=-1 --z")
	first, _ := lex.Lex(s)
	second, _ := lex.Lex(s)
	told := []string{s, lex.Whole(first), lex.Whole(first), lex.Whole([]lex.Token{{Lead: s}}), lex.Whole([]lex.Token{{Text: s}})}
	for _, token := range slices.Concat(first, second) {
		told = append(told, token.Lead, token.Text)
	}
	for i, a := range told {
		for _, b := range told[:i] {
			if within(a, b) {
				t.Errorf("%q and %q", a, b)
			}
		}
	}
	clear(first[:cap(first)])
	third, _ := lex.Lex(s)
	if lex.Whole(second) != s || !slices.Equal(second, third) {
		t.Error(second, third)
	}
}
