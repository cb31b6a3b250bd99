package sig_test

import (
	"fmt"
	"slices"
	"strings"
	"testing"

	"touchstone/api"
	"touchstone/ast"
	"touchstone/lex"
	"touchstone/parse"
	"touchstone/sig"
)

// readModel is a plainer way to what Read tells of texts that are short enough for layer 7: whether there is a signature.
func readModel(text string) (sig.Sig, bool) {
	t, f := parse.Parse("fun "+text+"=0;", api.MaxDepth)
	if f.E != api.OK {
		return sig.Sig{}, false
	}
	p, e := ast.Of(t)
	if e != api.OK || len(p.Defs) != 1 {
		return sig.Sig{}, false
	}
	s := sig.Of(p.Defs[0])
	shown, e := s.Show()
	return s, e == api.OK && shown == text
}

// wantNone holds that a text is none of a signature.
func wantNone(t *testing.T, text string) {
	t.Helper()
	if s, e := sig.Read(text); e != api.ErrForm || whole(s) != whole(sig.Sig{}) {
		t.Errorf("%.200q: got %.200s and error %d", text, whole(s), e)
	}
}

// wantRead holds that a text is read to what layer 7 and 8 read there, all places by their own text.
func wantRead(t *testing.T, text string) {
	t.Helper()
	s, e := sig.Read(text)
	if e != api.OK || !s.Right() {
		t.Errorf("%.200q: got error %d", text, e)
		return
	}
	if shown, e := s.Show(); e != api.OK || shown != text {
		t.Errorf("%.200q: is shown as %.200q, error %d", text, shown, e)
	}
	wantPlaces(t, text, s)
	if want, ok := readModel(text); ok && dump(s) != dump(want) {
		t.Errorf("%.200q: got %.200s", text, dump(s))
	}
}

// wantPlaces holds that each expression of what a text was read to stands at its token or sign.
func wantPlaces(t *testing.T, text string, s sig.Sig) {
	t.Helper()
	signs := []string{"+", "-", "*", "/", "%", "=", "<>", "<", "<=", ">", ">=", "&&", "||", "=>"}
	todo := slices.Clone(s.Clause)
	for _, x := range s.Params {
		todo = append(todo, x.Clause...)
	}
	seen := map[int]bool{}
	for len(todo) > 0 {
		e := todo[len(todo)-1]
		todo = append(todo[:len(todo)-1], e.Kids...)
		want := e.Name
		switch {
		case e.Op == ast.Lit:
			want = e.Num.String()
		case e.Op == ast.Truth:
			want = fmt.Sprint(e.Yes)
		case e.Op == ast.Res:
			want = "res"
		case e.Op == ast.Neg:
			want = "-"
		case e.Op == ast.Not:
			want = "not"
		case e.Op >= ast.Add && e.Op <= ast.Imp:
			want = signs[e.Op-ast.Add]
		}
		if e.At < 0 || e.At >= len(text) || !strings.HasPrefix(text[e.At:], want) || seen[e.At] {
			t.Fatalf("%.200q: %q doesn't stand at %d", text, want, e.At)
		}
		seen[e.At] = true
	}
}

// texts are some that signatures have.
func texts() []string {
	words := strings.Repeat("w", api.MaxName)
	digits := strings.Repeat("9", api.MaxDigits)
	var eight []string
	for i := range api.MaxParams {
		eight = append(eight, fmt.Sprintf("x%d: bool {x%d}", i, i))
	}
	return []string{
		"f(): int",
		"g_9(): bool",
		"F(x: int): int",
		"f(f: bool): bool {f}",
		"f(x: int {x > 0}): int {res > x}",
		"f(x: int, y: bool {y || x = 1}): bool {res = y}",
		"f(x: int {0}, y: bool {true}): int {false}",
		"f(): int {-(-res) > 1}",
		"f(): int {res - -res - (res - res) = -(res + 1)}",
		"f(): bool {not not res => not (res => res) => res}",
		"f(): bool {(not res) = (res = res)}",
		"f(): bool {not (res && res || res) && (res || res) || res}",
		"f(): bool {not res = res && not res}",
		"f(x: int): bool {res = (1 <> x) && (1 <= x) = (x < 2 && x >= 3)}",
		"f(x: int): int {x * 2 / 3 % (4 * -5) + x * (6 - x) <= res % (x - 1) * x}",
		"f(): int {" + digits + " < res}",
		words + "(" + words + ": int {" + words + " = 1}): int {" + words + " = res}",
		"f(" + strings.Join(eight, ", ") + "): int {x0 && x7}",
	}
}

func TestRead(t *testing.T) { // P10.3
	for _, text := range texts() {
		wantRead(t, text)
	}
}

func TestReadNone(t *testing.T) { // P10.3
	for _, text := range []string{
		"", " ", "f", "f()", "f():", "f(): ", "f() : int", "f():int", "f( ): int", "f(): int ", " f(): int", "f(): int\n", "\nf(): int", "f():\tint", "f():  int",
		"(): int", "9(): int", "_f(): int", "int(): int", "res(): int", "f.g(): int", "f(): nat", "f(): Int", "f(): 1", "f(): res",
		"pub f(): int", "pub fun f(): int", "fun f(): int", "import m;f(): int", "f(): int;", "f(): int = 1", "f(): int = 1;", "f(): int=0;",
		"f(): int=1;fun g(): int", "f(): int = 1; fun g(): int", "f(): int = 1; fun f(): int", "f(): int=0; --", "f(): int --", "f(): int=0;\n", "f(): int=0; --\n",
		"f(): int {}", "f(): int { }", "f(): int{res}", "f(): int {res }", "f(): int { res}", "f(): int {(res)}", "f(): int {res} ", "f(): int {res} {res}", "f(): int {res}}", "f(): int {{res}}", "f(): int {res", "f(): int res}", "f(): int }{", "f(): {res} int", "{res} f(): int", "f(): int {res}=0; --", "f(): int --{res}\n", "f(): int --\n{res}", "f(): int {--}\nres}", "f(): int {res}--", "f(): int --{\n{res}",
		"f(): int {x}", "f(x: int {res}): int", "f(x: int {y}, y: int): int", "f(x: int, x: int): int", "f(x: int {f}): int",
		"f(x): int", "f(x:int): int", "f(x : int): int", "f( x: int): int", "f(x: int ): int", "f(x: int,y: int): int", "f(x: int , y: int): int", "f(x: int,  y: int): int", "f(x: int, ): int", "f(, x: int): int", "f(x: int;y: int): int", "f(x: int y: int): int", "f(int: int): int",
		"f(): int {1+res}", "f(): int {1 +res}", "f(): int {1+ res}", "f(): int {1  + res}", "f(): int {1 + res + }", "f(): int {+ 1}", "f(): int {1 +}", "f(): int {+}", "f(): int {1 + + 1}", "f(): int {1 = 2 = 3}", "f(): int {(1) + 2}", "f(): int {(1 + 2) + 3}", "f(): int {1 + (2 * 3)}", "f(): int {(res => res) || res => (res => res)}",
		"f(): int {- res}", "f(): int {- -res}", "f(): int {--res}", "f(): int {-(res)}", "f(): int {not(res)}", "f(): int {not (res)}", "f(): int {not  res}", "f(): int {notres}", "f(): int {(res}", "f(): int {res)}", "f(): int {)res(}", "f(): int {((res + 1)) * 2}", "f(): int {(res) (res)}", "f(): int {res res}",
		"f(): int {00}", "f(): int {01}", "f(): int {+1}", "f(): int {" + strings.Repeat("9", api.MaxDigits+1) + "}", "f(): int {True}", "f(): int {1.}", "f(): int {1 & 1}", "f(): int {1 == 1}", "f(): int {1 != 1}", "f(): int {\x00}", "f(): int {é}", "f(): int {\xff}",
		"f(): int {if res then res else res}", "f(): int {(if res then res else res)}", "f(): int {let x = 1 in x}", "f(): int {assert true in res}", "f(): int {f()}", "f(): int {m.f(res)}",
		strings.Repeat("w", api.MaxName+1) + "(): int", "f(" + strings.Repeat("w", api.MaxName+1) + ": int): int",
		"f(a: int, b: int, c: int, d: int, e: int, g: int, h: int, i: int, j: int): int",
	} {
		wantNone(t, text)
	}
}

func TestReadDrawn(t *testing.T) { // P10.3
	d := newDrawer(2)
	of := map[string]string{}
	for range 5000 {
		s := d.sig()
		text, e := s.Show()
		if e != api.OK {
			t.Fatal(e)
		}
		got, e := sig.Read(text)
		if e != api.OK || dump(got) != dump(s) {
			t.Fatalf("%q: got %s and error %d", text, dump(got), e)
		}
		wantPlaces(t, text, got)
		if other, ok := of[text]; ok && other != dump(s) {
			t.Fatalf("%q is of two signatures", text)
		}
		of[text] = dump(s)
	}
}

// wantAsModel holds that a text is read just if layer 7 reads it so.
func wantAsModel(t *testing.T, text string) bool {
	t.Helper()
	want, ok := readModel(text)
	got, e := sig.Read(text)
	if (e == api.OK) != ok || !ok && e != api.ErrForm || ok && dump(got) != dump(want) || !ok && whole(got) != whole(sig.Sig{}) {
		t.Fatalf("%q: got %s and error %d, want %t", text, dump(got), e, ok)
	}
	return ok
}

// spoilt is a text with something else at one place.
func (d *drawer) spoilt(text string) string {
	pieces := append(strings.Fields("( ) {x} { } , : ; . + - * / % = <> < <= > >= && || => not not( -( x0 res true int bool 1 0 -- --{ =0;--"), " ", "  ", "\n", "--\n", " && x0", " = ", " - ", "- ", "not ", "=0;\nfun g(): int", "")
	from := d.r.IntN(len(text) + 1)
	to := min(len(text), from+d.r.IntN(4))
	if d.r.IntN(2) == 0 {
		to = from
	}
	return text[:from] + d.one(pieces...) + text[to:]
}

func TestReadSpoilt(t *testing.T) { // P10.3
	t.Parallel()
	d := newDrawer(3)
	fine := 0
	for range 30000 {
		s := d.sig()
		text, _ := s.Show()
		for range 1 + d.r.IntN(3) {
			text = d.spoilt(text)
		}
		if wantAsModel(t, text) {
			fine++
		}
	}
	if fine < 300 || fine > 15000 {
		t.Error(fine, "were fine")
	}
	for _, text := range texts() {
		if len(text) > 100 {
			continue
		}
		for at := range text {
			wantAsModel(t, text[:at])
			wantAsModel(t, text[at:])
			wantAsModel(t, text[:at]+text[at+1:])
			for _, c := range " ({})-=\nx;:," {
				wantAsModel(t, text[:at]+string(c)+text[at:])
				wantAsModel(t, text[:at]+string(c)+text[at+1:])
			}
		}
	}
}

// nested are texts of formulas in which something is nested so deep, but for what stands in the middle.
func nested(kind string, n int, middle string) string {
	switch kind {
	case "not":
		return strings.Repeat("not ", n-1) + middle
	case "imp":
		return strings.Repeat("1 => ", n-1) + middle
	case "neg":
		// A minus and a group are two.
		return strings.Repeat("-(", (n-1)/2) + middle + strings.Repeat(")", (n-1)/2)
	}
	return strings.Repeat("1 - (", n-1) + middle + strings.Repeat(")", n-1)
}

func TestReadDepth(t *testing.T) { // P10.3
	t.Parallel()
	for _, kind := range []string{"not", "imp", "group", "neg"} {
		for n := 1; n <= api.MaxDepth+20; n++ {
			inside := nested(kind, n, "1 + 1")
			if kind == "neg" && n%2 == 0 {
				inside = nested(kind, n-1, "-1")
			}
			for _, around := range []string{"f(): int {%s}", "f(x: int {%s}): int", "f(x: int {true}, y: bool, z: bool {%s}): int {res}"} {
				text := fmt.Sprintf(around, inside)
				if n <= api.MaxDepth {
					wantRead(t, text)
				} else {
					wantNone(t, text)
				}
			}
		}
	}
}

func TestReadDepthOfLong(t *testing.T) { // P10.3
	t.Parallel()
	long := strings.Repeat("1 + ", api.MaxText/4) + "1"
	for _, kind := range []string{"not", "imp", "group", "neg"} {
		for _, n := range []int{1, 2, 3, api.MaxDepth - 1, api.MaxDepth, api.MaxDepth + 1, api.MaxDepth + 2, 2*api.MaxDepth + 1} {
			text := "f(): int {" + nested(kind, n, long) + "}"
			if n <= api.MaxDepth {
				wantRead(t, text)
			} else {
				wantNone(t, text)
			}
		}
	}
}

func TestReadDepthApart(t *testing.T) { // P10.3
	// What is nested deep enough in one place is told, whatever stands in others.
	deep := nested("not", api.MaxDepth, "true")
	wantRead(t, "f(x: bool {"+deep+"}, y: bool {"+deep+"}): bool {"+deep+" && "+deep+"}")
	wantNone(t, "f(x: bool {not "+deep+"}, y: bool): bool")
	wantNone(t, "f(x: bool, y: bool {not "+deep+"}): bool")
	wantNone(t, "f(x: bool, y: bool): bool {true && not "+deep+"}")
	wantNone(t, "f(x: bool, y: bool): bool {true => "+deep+"}")
	s := sig.Sig{Name: "f", Base: 1, Clause: clause(op(ast.Not, deepOf(deep)))}
	text, e := s.Show()
	if e != api.OK || !s.Right() {
		t.Error("no depth is too deep to be right or shown:", e)
	}
	wantNone(t, text)
}

// deepOf is the expression of a formula.
func deepOf(text string) ast.Expr {
	t, _ := parse.Formula(text, api.MaxDepth)
	e, _ := ast.FormulaOf(t)
	return e
}

// padded is a signature's text with so many bytes.
func padded(size int) string {
	head, tail := "f(x: int): int {", "x = res}"
	room := size - len(head) - len(tail)
	// A number and `+` are as long as wanted; some parts have one digit, one or two have more.
	most := 3 + api.MaxDigits
	var out strings.Builder
	out.WriteString(head)
	for room > 0 {
		part := min(room, most)
		if rest := room - part; rest > 0 && rest < 4 {
			part -= 4
		}
		out.WriteString(strings.Repeat("7", part-3) + " + ")
		room -= part
	}
	return out.String() + tail
}

func TestReadSizes(t *testing.T) { // P10.3
	t.Parallel()
	// No limit of texts is named for signatures: neither layer 7's own, nor what it is with more around.
	for _, at := range []int{api.MaxText - 7, api.MaxText, api.MaxText + len("f(x: int): int {}"), 2 * api.MaxText} {
		for size := at - 3; size <= at+3; size++ {
			text := padded(size)
			if len(text) != size {
				t.Fatal(len(text), size)
			}
			wantRead(t, text)
			wantNone(t, text+" ")
			wantNone(t, strings.Replace(text, "+ ", "+  ", 1))
			wantNone(t, strings.Replace(text, "x = res", "y = res", 1))
			wantNone(t, strings.Replace(text, "7 + x", "7 x +", 1))
		}
	}
}

func TestReadManyLongClauses(t *testing.T) { // P10.3
	t.Parallel()
	long := strings.Repeat("x0 - ", api.MaxText/5) + "x0 <> 7"
	var params []string
	for i := range api.MaxParams {
		params = append(params, fmt.Sprintf("x%d: int {%s}", i, long))
	}
	text := "f(" + strings.Join(params, ", ") + "): bool {res || " + long + " || res}"
	wantRead(t, text)
	wantNone(t, strings.Replace(text, "x0: int", "x9: int", 1))
	wantNone(t, strings.Replace(text, "}, ", "},", 1))
	for _, n := range []int{1000, 100000} {
		for _, s := range []string{"x", " ", "(", ")", "{", "}", "{}", "{1}", "f(): int {1}", "--", "\n", "\x00", "+ ", " +", " + ", "not ", "-(", "1 = ", ", x: int"} {
			many := strings.Repeat(s, n)
			wantNone(t, many)
			wantNone(t, "f(): int {"+many+"}")
			wantNone(t, "f(x: int"+many+"): int")
		}
	}
}

// longer is a text with a long chain in the place of each word `long`, and with a short one there.
func longer(text, sign string) (string, string) {
	chain := func(n int) string {
		return strings.ReplaceAll(text, "long", strings.Repeat("x0 "+sign+" ", n)+"x0")
	}
	return chain(api.MaxText/(4+len(sign)) + 1), chain(1)
}

func TestReadLong(t *testing.T) { // P10.3
	t.Parallel()
	signs := []string{"+", "&&", "%", "-", "||"}
	for i, inside := range []string{
		"long", "1 + long", "long + 1", "1 - (long)", "(long) - 1", "1 * long", "1 * (long)", "long / 2", "(long) / 2 % (3 + long) * long",
		"-(long)", "-(-(long))", "-(long) + 1", "-(long) * -1", "1 - -(long)", "not long", "not (long)", "not not long = 1", "not (not long && long)", "not long = 1 && long = 2 || long = 3",
		"long = 1", "1 <> long", "long < long", "(long) <= (long)", "(long = 1) > (2 >= long)", "-(long = 1)", "(not long) = 1", "1 = (not long)",
		"long && x0", "x0 && long", "x0 && (long)", "(long) && x0", "x0 || long", "long || x0 && long || x0", "(long || x0) && (x0 || long)",
		"long => x0", "x0 => long", "(long => x0) => x0", "x0 => long => long => x0", "x0 => (long => x0) => long", "not (x0 => long)", "(long) => (long)", "x0 || long => x0 => x0", "x0 && x0 || x0 => long => x0 => x0", "not x0 && long => long || x0 => x0",
		"res - (res - (res - (res - long)))", "res + (long) + res", "1 = 2 = long", "long = 2 = 3",
	} {
		for _, sign := range []string{signs[i%5], signs[(i+1)%5]} {
			long, short := longer("f(x0: int): int {"+inside+"}", sign)
			if wantAsModel(t, short) {
				wantRead(t, long)
			} else {
				wantNone(t, long)
			}
		}
	}
}

func TestReadLongDrawn(t *testing.T) { // P10.3
	t.Parallel()
	d := newDrawer(4)
	signs := []string{"+", "-", "*", "%", "&&", "||", "=>"}
	fine := 0
	for range 60 {
		text, _ := sig.Sig{Name: "f", Params: []sig.Slot{{Name: "x0", Base: 1}, {Name: "long", Base: 1}}, Base: 1, Clause: clause(d.formula(4, true, "x0", "long", "long"))}.Show()
		text = strings.Replace(text, "long: int", "y: int", 1)
		if d.r.IntN(3) == 0 {
			text = d.spoilt(text)
		}
		sign := d.one(signs...)
		long, short := longer(text, sign)
		ok := wantAsModel(t, short)
		if sign == "=>" && len(long) > api.MaxText {
			// That is nested too deep.
			ok = false
		}
		if ok {
			fine++
			wantRead(t, long)
		} else {
			wantNone(t, long)
		}
	}
	if fine < 10 || fine > 50 {
		t.Error(fine, "were fine")
	}
}

func TestReadSignsAtWrongPlaces(t *testing.T) { // P1, P10.3
	t.Parallel()
	for _, sign := range []string{"+", "=", "&&"} {
		for _, n := range []int{10, api.MaxText/4 + 1} {
			chain := strings.Repeat("1 "+sign+" ", n)
			for _, inside := range []string{
				chain, chain + "1 " + sign, chain + sign, chain + " 1", chain + sign + " 1", chain + "not", chain + "not ", chain + "-", chain + "- 1",
				sign + " " + chain + "1", " " + sign + " " + chain + "1", sign + chain + "1", " " + chain + "1", chain + "1 ", chain + "1  " + sign + " 1", chain + "1 " + sign + "  1",
				chain + "1 1", chain + "1 (1)", chain + "(1", chain + "1)", ")" + chain + "1", chain + "1) " + sign + " (1", "(" + chain + "1) (" + chain + "1)", "(" + chain + "1)(1)",
				chain + "1 * * 1", chain + "* 1", chain + "1 => => 1", "=> " + chain + "1", chain + "1 =>", chain + "=> 1",
				"(" + chain + "1)", "((" + chain + "1))", "not(" + chain + "1)", "-" + chain + "1)", "- (" + chain + "1)", "not", "not ", "-", "(", ")", "()",
			} {
				wantNone(t, "f(): int {"+inside+"}")
			}
		}
	}
}

func TestReadIsTheSameEachTime(t *testing.T) { // P10.3
	for _, text := range append(texts(), padded(api.MaxText+100)) {
		a, _ := sig.Read(text)
		b, _ := sig.Read(text)
		if whole(a) != whole(b) {
			t.Errorf("%.100q: two answers", text)
		}
	}
}

func TestReadNames(t *testing.T) { // P10.3
	for _, s := range noNames() {
		wantNone(t, s+"(): int")
		wantNone(t, "f("+s+": int): int")
		if s != "true" && s != "false" && s != "res" && s != "9" {
			wantNone(t, "f(x: int): int {"+s+"}")
		}
	}
	for _, key := range lex.Keys() {
		wantRead(t, strings.ToUpper(key)+"(x: int): int {x}")
	}
}

func FuzzRead(f *testing.F) { // P1, P10.3
	for _, text := range texts() {
		f.Add(text)
	}
	f.Fuzz(func(t *testing.T, text string) { wantAsModel(t, text) })
}
