package term_test

import (
	"math"
	"slices"
	"strconv"
	"strings"
	"testing"
	"unsafe"

	"touchstone/api"
	"touchstone/bag"
	"touchstone/term"
	"touchstone/zed"
)

// number is that of a text, which may be longer than layer 1 reads at once.
func number(s string) zed.Int {
	digits, below := strings.CutPrefix(s, "-")
	var n zed.Int
	for i := range len(digits) {
		digit, e := zed.Parse(digits[i : i+1])
		if e != api.OK {
			panic(s)
		}
		n = n.Mul(zed.From(10)).Add(digit)
	}
	if below {
		n = n.Neg()
	}
	return n
}

// made is a term of a text such as "2*x+-1*y+3", put together part by part; a rest of 0 may be left out.
func made(s string) term.Term {
	var out term.Term
	for _, p := range strings.Split(s, "+") {
		if factor, name, ok := strings.Cut(p, "*"); ok {
			out = out.Plus(term.Name(name).Times(number(factor)))
		} else {
			out = out.Plus(term.Num(number(p)))
		}
	}
	return out
}

// want holds a term against its text, whose names must be plain ones, and all that is told of it against that.
func want(t *testing.T, what string, got term.Term, text string) {
	t.Helper()
	if got.String() != text {
		t.Errorf("%s: got %.300s, want %.300s", what, got, text)
		return
	}
	parts := strings.Split(text, "+")
	if rest := parts[len(parts)-1]; got.Rest().String() != rest {
		t.Errorf("%s: %s has the rest %s", what, text, got.Rest())
	}
	var names []string
	for _, p := range parts[:len(parts)-1] {
		factor, name, _ := strings.Cut(p, "*")
		names = append(names, name)
		if got.Factor(name).String() != factor {
			t.Errorf("%s: %s has %s times %s", what, text, got.Factor(name), name)
		}
	}
	if !slices.Equal(got.Names(), names) {
		t.Errorf("%s: %s has the names %q", what, text, got.Names())
	}
	for _, none := range []string{"none", "x ", "X", "*", "1*x", "+"} {
		if got.Factor(none).Sign() != 0 {
			t.Errorf("%s: %s has a factor of %q", what, text, none)
		}
	}
	if other := made(text); !term.Same(got, other) || !term.Same(other, got) {
		t.Errorf("%s: isn't the same as %s", what, text)
	}
}

var nines = strings.Repeat("9", api.MaxDigits)

func TestNumbers(t *testing.T) { // P13.1
	for _, s := range []string{"0", "1", "-1", "7", "-40", "9223372036854775807", "-9223372036854775808", "18446744073709551616", nines, "-" + nines} {
		want(t, s, term.Num(number(s)), s)
	}
	for _, n := range []int{0, 1, -1, math.MaxInt, math.MinInt} {
		want(t, "an int", term.Num(zed.From(n)), strconv.Itoa(n))
	}
	far, _ := zed.Pow(zed.From(-7), 1000)
	if u := term.Num(far); u.Rest().Cmp(far) != 0 || u.String() != far.String() || len(u.Names()) != 0 {
		t.Error("far below 0:", u)
	}
}

func TestNames(t *testing.T) { // P13.1
	for _, s := range []string{"x", "Y_9", "res", "let", strings.Repeat("n", api.MaxName)} {
		want(t, s, term.Name(s), "1*"+s+"+0")
	}
	// Names may be any texts.
	for _, s := range []string{"", " ", "x ", "0", "-1", "+", "*", "1*x+0", "é", "\x00", "\xff", "\n", strings.Repeat("n", 100000)} {
		u := term.Name(s)
		if u.String() != "1*"+s+"+0" || !slices.Equal(u.Names(), []string{s}) || u.Factor(s).String() != "1" || u.Rest().Sign() != 0 {
			t.Errorf("%.20q: %.30q", s, u)
		}
		for _, other := range []string{"", "x", s + "x", s + "\x00"} {
			if other != s && (u.Factor(other).Sign() != 0 || term.Same(u, term.Name(other))) {
				t.Errorf("%.20q is also %.20q", s, other)
			}
		}
	}
}

func TestOrderOfNames(t *testing.T) { // P13.1
	// Rising byte by byte, and one that another one begins with ahead of that.
	rising := []string{"", "\x00", "\x00x", " ", "0", "10", "2", "A", "Z", "_", "a", "a\x00", "a0", "aA", "aa", "aaa", "ab", "b", "res", "x", "x0", "x1", "x10", "x2", "z", "é", "\xff", "\xff\xff"}
	slices.Sort(rising)
	for step := 1; step < len(rising); step++ {
		var u term.Term
		text := ""
		for i := range rising {
			at := i * step % len(rising)
			// A second time round, the same name comes again.
			u = u.Plus(term.Name(rising[at]))
		}
		for _, name := range u.Names() {
			text += u.Factor(name).String() + "*" + name + "+"
		}
		names := u.Names()
		if !slices.IsSorted(names) || len(slices.Compact(u.Names())) != len(names) || u.String() != text+"0" {
			t.Errorf("step %d: %q", step, u)
		}
		for _, name := range rising {
			if slices.Contains(names, name) != (u.Factor(name).Sign() != 0) {
				t.Errorf("step %d: %q has the factor %s", step, name, u.Factor(name))
			}
		}
	}
	want(t, "turned round", made("3*z+2*b+1*a+4"), "1*a+2*b+3*z+4")
	want(t, "great letters first", made("1*a+1*Z+1*_+1*x10+1*x2+1*x+0"), "1*Z+1*_+1*a+1*x+1*x10+1*x2+0")
}

func TestZeroValue(t *testing.T) { // P13.1, P13.2, P13.3
	var zero term.Term
	want(t, "zero", zero, "0")
	x := made("2*x+3")
	for what, got := range map[string]term.Term{
		"plus nothing": zero.Plus(), "plus itself": zero.Plus(zero, zero), "minus": zero.Minus(zero), "times": zero.Times(number("7")), "put": zero.Put("x", x),
		"num": term.Num(zed.Int{}), "less itself": x.Minus(x), "none": x.Times(zed.Int{}), "a name less itself": term.Name("x").Minus(term.Name("x")),
	} {
		want(t, what, got, "0")
		if !term.Same(got, zero) || !term.Same(zero, got) {
			t.Error(what, "isn't the zero value")
		}
	}
	want(t, "zero plus", zero.Plus(x), "2*x+3")
	want(t, "plus zero", x.Plus(zero), "2*x+3")
	want(t, "zero minus", zero.Minus(x), "-2*x+-3")
	want(t, "minus zero", x.Minus(zero), "2*x+3")
	want(t, "zero in a name's place", x.Put("x", zero), "3")
	if v, e := zero.Eval(bag.NewMap[string, zed.Int]()); e != api.OK || v.Sign() != 0 {
		t.Error(v, e)
	}
	if zero.Common().Sign() != 0 {
		t.Error(zero.Common())
	}
	for _, n := range []string{"1", "-1", "7", nines} {
		if u, e := zero.Divide(number(n)); e != api.OK || !term.Same(u, zero) {
			t.Error(n, u, e)
		}
	}
	wantDivide(t, zero, "0", "", api.ErrZero)
}

func TestSame(t *testing.T) { // P13.1
	texts := []string{"0", "1", "-1", "2", nines, "1*x+0", "-1*x+0", "2*x+0", "1*x+1", "1*x+-1", "1*y+0", "1*x+1*y+0", "1*x+-1*y+0", "-1*x+1*y+0", "1*x+1*y+1", "1*x+1*z+0", "1*x+1*y+1*z+0", "1*xy+0", nines + "*x+0", "-" + nines + "*x+0"}
	for i, a := range texts {
		for j, b := range texts {
			if term.Same(made(a), made(b)) != (i == j) {
				t.Error(a, "and", b)
			}
		}
	}
	// Texts may be the same where terms aren't.
	if a, b := made("1*x+1*y+0"), term.Name("x+1*y"); a.String() != b.String() || term.Same(a, b) {
		t.Error(a, b)
	}
	// It plays no part how a term came about.
	a := made("2*x+-3*y+5")
	for _, b := range []term.Term{
		made("-3*y+5+2*x"), made("1*x+1*x+-3*y+2+3"), made("9*z+2*x+-3*y+5+-9*z"), a.Times(number(nines)).Minus(a.Times(number(nines).Sub(zed.From(1)))),
		a.Times(zed.From(-1)).Times(zed.From(-1)), a.Put("x", term.Name("a")).Put("a", term.Name("x")), made("2*x+5").Minus(made("3*y+0")),
	} {
		want(t, "another way", b, "2*x+-3*y+5")
		if !term.Same(a, b) || !term.Same(b, a) {
			t.Error(b)
		}
	}
}

func TestPlus(t *testing.T) { // P13.2
	for _, x := range []struct {
		parts []string
		want  string
	}{
		{[]string{"0"}, "0"},
		{[]string{"2*x+1"}, "2*x+1"},
		{[]string{"1", "2"}, "3"},
		{[]string{"1*x+1", "1*x+-1"}, "2*x+0"},
		{[]string{"1*x+1", "-1*x+2"}, "3"},
		{[]string{"1*x+1", "1*y+2"}, "1*x+1*y+3"},
		{[]string{"1*y+1", "1*x+2"}, "1*x+1*y+3"},
		{[]string{"1*b+1*d+0", "1*a+1*c+1*e+0"}, "1*a+1*b+1*c+1*d+1*e+0"},
		{[]string{"1*a+1*c+1*e+0", "1*b+1*d+0"}, "1*a+1*b+1*c+1*d+1*e+0"},
		{[]string{"1*a+1*b+1*c+0", "-1*b+0"}, "1*a+1*c+0"},
		{[]string{"1*a+1*b+1*c+0", "-1*a+-1*c+4"}, "1*b+4"},
		{[]string{"1*a+1*b+1*c+0", "1*a+-1*b+1*c+0"}, "2*a+2*c+0"},
		{[]string{nines + "*x+" + nines, "1*x+1"}, "1" + strings.Repeat("0", api.MaxDigits) + "*x+1" + strings.Repeat("0", api.MaxDigits)},
		{[]string{"1*x+1", "2*x+2", "3*x+3"}, "6*x+6"},
		{[]string{"1*x+0", "1*y+0", "-1*x+0", "1*z+0", "-1*y+0", "-1*z+0", "1"}, "1"},
		{[]string{"1*c+0", "1*b+0", "1*a+0", "2*b+0", "3*c+0"}, "1*a+3*b+4*c+0"},
	} {
		var more []term.Term
		for _, s := range x.parts[1:] {
			more = append(more, made(s))
		}
		first := made(x.parts[0])
		got := first.Plus(more...)
		if text := strings.Join(x.parts, " and "); got.String() != x.want {
			t.Errorf("%s: got %s, want %s", text, got, x.want)
		}
		back := got
		for _, u := range more {
			back = back.Minus(u)
		}
		if !term.Same(back, first) {
			t.Errorf("%s, taken away again: %s", strings.Join(x.parts, " and "), back)
		}
	}
	want(t, "nothing more", made("2*x+1").Plus(), "2*x+1")
	want(t, "an empty list", made("2*x+1").Plus([]term.Term{}...), "2*x+1")
}

func TestManyParts(t *testing.T) { // P13.2
	const n = 100000
	var names, sames []term.Term
	for i := range n {
		names = append(names, term.Name("n"+strconv.Itoa(n+i*7919%n)))
		sames = append(sames, made("1*x+2"))
	}
	all := term.Num(zed.From(1)).Plus(names...)
	if l := all.Names(); len(l) != n || !slices.IsSorted(l) || l[0] != "n100000" || l[n-1] != "n199999" {
		t.Error(len(l), "names")
	}
	want(t, "all again", all.Minus(term.Num(zed.From(2)).Plus(names...)), "-1")
	want(t, "one name", term.Term{}.Plus(sames...), "100000*x+200000")
}

func TestMinus(t *testing.T) { // P13.2
	for _, x := range [][3]string{
		{"3", "5", "-2"},
		{"1*x+0", "1*x+0", "0"},
		{"1*x+0", "-1*x+0", "2*x+0"},
		{"1*x+1", "1*y+2", "1*x+-1*y+-1"},
		{"1*y+1", "1*x+2", "-1*x+1*y+-1"},
		{"2*a+3*b+4*c+5", "2*a+1*b+5*c+6", "2*b+-1*c+-1"},
		{"0", "2*a+-3*b+4", "-2*a+3*b+-4"},
	} {
		want(t, x[0]+" less "+x[1], made(x[0]).Minus(made(x[1])), x[2])
	}
}

func TestTimes(t *testing.T) { // P13.2
	for _, x := range [][3]string{
		{"2*x+-3*y+5", "0", "0"},
		{"2*x+-3*y+5", "1", "2*x+-3*y+5"},
		{"2*x+-3*y+5", "-1", "-2*x+3*y+-5"},
		{"2*x+-3*y+5", "-4", "-8*x+12*y+-20"},
		{"2*x+0", "3", "6*x+0"},
		{"7", "-3", "-21"},
		{"0", nines, "0"},
		{"1*x+-1", nines, nines + "*x+-" + nines},
	} {
		want(t, x[1]+" times "+x[0], made(x[0]).Times(number(x[1])), x[2])
	}
}

func TestPut(t *testing.T) { // P13.2
	for _, x := range [][4]string{
		{"2*x+1", "x", "1*y+3", "2*y+7"},
		{"2*x+1", "y", "1*z+3", "2*x+1"},
		{"2*x+1", "", "5", "2*x+1"},
		{"2*x+1", "x", "0", "1"},
		{"2*x+1", "x", "-4", "-7"},
		{"2*x+1", "x", "1*x+0", "2*x+1"},
		{"2*x+1", "x", "1*x+1", "2*x+3"},
		{"2*x+1", "x", "-1*x+0", "-2*x+1"},
		{"2*x+1", "x", "3*x+1*y+0", "6*x+2*y+1"},
		{"1*x+1*y+0", "x", "1*y+0", "2*y+0"},
		{"1*x+1*y+0", "x", "-1*y+0", "0"},
		{"1*x+1*y+0", "y", "1*a+-1*x+2", "1*a+2"},
		{"1*x+1*y+0", "x", "1*x+1*y+0", "1*x+2*y+0"},
		{"-3*x+1*y+4", "x", "2*a+-1*y+1", "-6*a+4*y+1"},
		{"4*x+-6*y+10", "x", "1*y+1", "-2*y+14"},
		{"7", "x", "1*y+0", "7"},
	} {
		want(t, x[2]+" for "+x[1]+" in "+x[0], made(x[0]).Put(x[1], made(x[2])), x[3])
	}
	// All at once, not again in what was put.
	want(t, "x and y exchanged", made("2*x+3*y+0").Put("x", term.Name("z")).Put("y", term.Name("x")).Put("z", term.Name("y")), "3*x+2*y+0")
}

// values is a map of numbers by names.
func values(pairs ...string) *bag.Map[string, zed.Int] {
	m := bag.NewMap[string, zed.Int]()
	for i := 0; i < len(pairs); i += 2 {
		m.Put(pairs[i], number(pairs[i+1]))
	}
	return m
}

func TestEval(t *testing.T) { // P13.3
	for _, x := range []struct {
		text   string
		values []string
		want   string
	}{
		{"0", nil, "0"},
		{"-7", nil, "-7"},
		{"-7", []string{"x", "1"}, "-7"},
		{"2*x+1", []string{"x", "0"}, "1"},
		{"2*x+1", []string{"x", "5"}, "11"},
		{"2*x+1", []string{"x", "-5", "y", "9", "", "4"}, "-9"},
		{"2*x+-3*y+1", []string{"x", "5", "y", "3"}, "2"},
		{"1*x+1", []string{"x", nines}, "1" + strings.Repeat("0", api.MaxDigits)},
		{"1*res+0", []string{"res", "3"}, "3"},
		{"2*x+1", nil, ""},
		{"2*x+1", []string{"y", "1"}, ""},
		{"2*x+1", []string{"X", "1", "x ", "1", "", "1"}, ""},
		{"2*x+1*y+1", []string{"x", "1"}, ""},
		{"2*x+1*y+1", []string{"y", "1"}, ""},
		{"1*x+1*y+1*z+1", []string{"x", "1", "z", "1"}, ""},
	} {
		v, e := made(x.text).Eval(values(x.values...))
		if x.want == "" && (e != api.ErrName || v.Sign() != 0) || x.want != "" && (e != api.OK || v.String() != x.want) {
			t.Errorf("%s with %q: %s and error %d, want %s", x.text, x.values, v, e, x.want)
		}
	}
	// A name that isn't in it any more has no value to have.
	if v, e := made("2*x+1*y+-2*x+1").Eval(values("y", "4")); e != api.OK || v.String() != "5" {
		t.Error(v, e)
	}
	m := values("x", "4")
	m.Drop("x")
	if _, e := term.Name("x").Eval(m); e != api.ErrName {
		t.Error(e)
	}
}

func TestCommon(t *testing.T) { // P13.3
	for text, want := range map[string]string{
		"0": "0", "6": "0", "-6": "0",
		"1*x+0": "1", "-1*x+4": "1", "6*x+0": "6", "-6*x+4": "6",
		"4*x+-6*y+10": "2", "4*x+-6*y+1": "2", "4*x+6*y+9*z+0": "1", "-4*x+-8*y+0": "4",
		"6*x+10*y+15*z+0": "1", "12*x+18*y+30*z+7": "6", nines + "*x+-" + nines + "*y+1": nines,
	} {
		if got := made(text).Common(); got.String() != want {
			t.Errorf("%s: got %s, want %s", text, got, want)
		}
	}
}

// wantDivide holds what comes of a term by a number: a text, or an error.
func wantDivide(t *testing.T, u term.Term, by string, text string, e api.Errno) {
	t.Helper()
	got, err := u.Divide(number(by))
	if err != e || e != api.OK && !term.Same(got, term.Term{}) {
		t.Errorf("%s by %s: %s and error %d, want error %d", u, by, got, err, e)
	} else if e == api.OK {
		want(t, u.String()+" by "+by, got, text)
	}
}

func TestDivide(t *testing.T) { // P13.3
	for _, x := range [][3]string{
		{"4*x+-6*y+10", "1", "4*x+-6*y+10"},
		{"4*x+-6*y+10", "-1", "-4*x+6*y+-10"},
		{"4*x+-6*y+10", "2", "2*x+-3*y+5"},
		{"4*x+-6*y+10", "-2", "-2*x+3*y+-5"},
		{"7*x+0", "7", "1*x+0"},
		{"7*x+0", "-7", "-1*x+0"},
		{"-12", "4", "-3"},
		{"0", "5", "0"},
		{nines + "*x+" + nines, nines, "1*x+1"},
		{nines + "*x+" + nines, "9", strings.Repeat("1", api.MaxDigits) + "*x+" + strings.Repeat("1", api.MaxDigits)},
	} {
		wantDivide(t, made(x[0]), x[1], x[2], api.OK)
	}
	for _, x := range [][2]string{
		{"4*x+-6*y+10", "4"}, {"4*x+-6*y+10", "-4"}, {"4*x+-6*y+10", "3"}, {"4*x+-6*y+10", "20"},
		{"4*x+6*y+7", "2"}, {"4*x+5*y+6", "2"}, {"3*x+4*y+6", "2"}, {"-3*x+-4*y+-6", "-2"},
		{"1", "2"}, {"-1", "2"}, {"1*x+0", "2"}, {"1*x+0", "-" + nines}, {"3*x+0", "6"},
	} {
		wantDivide(t, made(x[0]), x[1], "", api.ErrRange)
	}
	for _, s := range []string{"0", "7", "4*x+-6*y+10", "1*x+1"} {
		wantDivide(t, made(s), "0", "", api.ErrZero)
	}
}

func TestTermsStay(t *testing.T) { // P13.2: what comes of a term doesn't change it, nor what came of it ahead
	const text = "1*b+1*d+1*f+1"
	u := made(text)
	others := []string{"1*a+0", "1*c+0", "1*g+0", "-1*f+0", "-1*b+0", "7", "1*a+1*g+1*h+0", "0"}
	var sums []term.Term
	for _, s := range others {
		sums = append(sums, u.Plus(made(s)), made(s).Plus(u), u.Minus(made(s)), u.Put("d", made(s)), u.Times(zed.From(2)))
		u.Divide(zed.From(1))
		u.Eval(values("b", "1", "d", "1", "f", "1"))
		u.Names()[0] = "z"
	}
	want(t, "the first one", u, text)
	for i, s := range others {
		again := []term.Term{u.Plus(made(s)), made(s).Plus(u), u.Minus(made(s)), u.Put("d", made(s)), u.Times(zed.From(2))}
		for j := range again {
			if got := sums[5*i+j]; !term.Same(got, again[j]) {
				t.Error(s, got, again[j])
			}
		}
	}
}

func TestArgumentsStay(t *testing.T) { // P13.2, P13.3: nothing is kept or changed, spare room neither
	room := []term.Term{made("1*x+1"), made("2*y+2"), made("3*x+3"), made("4*z+4")}
	for n := range 4 {
		sum := term.Name("a").Plus(room[:n]...)
		text := sum.String()
		kept := slices.Clone(room)
		room[0] = made("9*q+9")
		if sum.String() != text {
			t.Error("the list is kept:", sum)
		}
		room[0] = kept[0]
		for i := range room {
			if !term.Same(room[i], kept[i]) {
				t.Error("the list is changed at", i, room[i])
			}
		}
	}
	m := values("x", "1", "y", "2", "z", "3")
	made("1*x+1*z+0").Eval(m)
	made("1*x+1*none+0").Eval(m)
	if m.Len() != 3 || !slices.Equal(m.Keys(), []string{"x", "y", "z"}) {
		t.Error(m.Keys())
	}
	m.Put("x", zed.From(10))
	if v, _ := made("1*x+1*z+0").Eval(m); v.String() != "13" {
		t.Error("an old value:", v)
	}
}

// within tells whether a piece of a text lies in the memory of another one.
func within(piece, whole string) bool {
	from, at := uintptr(unsafe.Pointer(unsafe.StringData(whole))), uintptr(unsafe.Pointer(unsafe.StringData(piece)))
	return piece != "" && at >= from && at < from+uintptr(len(whole))
}

func TestNewMemory(t *testing.T) { // P13.1: lists and names that are told are new
	long := strings.Repeat("name", 20)
	u := term.Name(long[4:40]).Plus(term.Name("x"))
	first, second := u.Names(), u.Names()
	for i, s := range first {
		if within(s, long) || within(s, second[i]) {
			t.Errorf("%q shares memory", s)
		}
	}
	// What a name was made of may be other bytes later.
	bytes := []byte("beta")
	v := term.Name(unsafe.String(&bytes[0], len(bytes)))
	bytes[0] = 'z'
	want(t, "a name that was handed in", v, "1*beta+0")
	first[0], first[1] = "a", "b"
	if !slices.Equal(second, []string{long[4:40], "x"}) || !slices.Equal(u.Names(), second) {
		t.Error("the list is shared:", second, u.Names())
	}
	second = append(second[:1], "c")
	if !slices.Equal(u.Names(), []string{long[4:40], "x"}) {
		t.Error("spare room is shared:", u.Names())
	}
}
