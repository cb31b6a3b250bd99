package zed_test

import (
	"math"
	"math/big"
	"reflect"
	"slices"
	"strings"
	"testing"

	"touchstone/api"
	"touchstone/zed"
)

// made is the same number as b, put together from pieces that From takes.
func made(b *big.Int) zed.Int {
	var a zed.Int
	piece := zed.From(1 << 32)
	bytes := new(big.Int).Abs(b).Bytes()
	for len(bytes)%4 != 0 {
		bytes = append([]byte{0}, bytes...)
	}
	for i := 0; i < len(bytes); i += 4 {
		n := int(bytes[i])<<24 | int(bytes[i+1])<<16 | int(bytes[i+2])<<8 | int(bytes[i+3])
		a = a.Mul(piece).Add(zed.From(n))
	}
	if b.Sign() < 0 {
		return a.Neg()
	}
	return a
}

func same(t *testing.T, what string, got zed.Int, want *big.Int) {
	t.Helper()
	if got.String() != want.String() {
		t.Fatalf("%s: got %s, want %s", what, got, want)
	}
	if got.Sign() != want.Sign() || got.Bits() != want.BitLen() {
		t.Fatalf("%s: %s has sign %d and %d bits", what, got, got.Sign(), got.Bits())
	}
}

// numbers are n numbers of both signs and of up to 6 words, many of them beside powers of 2 to a word's bits, always the same ones.
func numbers(n int) []*big.Int {
	state := uint64(88172645463325252)
	next := func() uint64 {
		state ^= state << 13
		state ^= state >> 7
		state ^= state << 17
		return state
	}
	edges := []uint64{0, 0, 1, 2, 1 << 31, 1 << 32, 1<<32 - 1, 1<<63 - 1, 1 << 63, 1<<63 + 1, math.MaxUint64 - 1, math.MaxUint64}
	var out []*big.Int
	for range n {
		b := new(big.Int)
		for range next() % 7 {
			w := next()
			if next()%4 != 0 {
				w = edges[w%uint64(len(edges))]
			}
			b.Lsh(b, 64).Or(b, new(big.Int).SetUint64(w))
		}
		if next()%2 == 0 {
			b.Neg(b)
		}
		out = append(out, b)
	}
	return out
}

func pairs(t *testing.T, ask func(x, y *big.Int, a, b zed.Int)) {
	t.Helper()
	l := numbers(260)
	for _, x := range l[:130] {
		a := made(x)
		for _, y := range l[130:] {
			ask(x, y, a, made(y))
		}
	}
}

func TestFromAndString(t *testing.T) { // P1.1
	for _, n := range []int{0, 1, -1, 9, 10, -10, 1<<31 - 1, 1 << 32, -1 << 32, 999999999999999999, 1000000000000000000, 1 << 62, math.MaxInt, math.MinInt, math.MinInt + 1} {
		same(t, "From", zed.From(n), big.NewInt(int64(n)))
	}
	for _, x := range numbers(2000) {
		same(t, "String", made(x), x)
	}
	for i := range 200 {
		ten := new(big.Int).Exp(big.NewInt(10), big.NewInt(int64(i)), nil)
		same(t, "power of 10", made(ten), ten)
		ten.Sub(ten, big.NewInt(1))
		same(t, "nines", made(ten), ten)
	}
}

func TestZeroValue(t *testing.T) { // P1.1
	var zero zed.Int
	if zero.String() != "0" || zero.Sign() != 0 || zero.Bits() != 0 {
		t.Error(zero.String(), zero.Sign(), zero.Bits())
	}
	parsed, _ := zed.Parse("0")
	five := zed.From(5)
	_, rest, _ := zed.From(-10).DivMod(five)
	for i, a := range []zed.Int{zed.From(0), parsed, rest, zero.Neg(), zero.Abs(), zero.Add(), five.Sub(five), five.Add(zed.From(-5)), five.Mul(zero), zed.From(-5).Mul(zero)} {
		if !reflect.DeepEqual(a, zed.Int{}) || a.Cmp(zero) != 0 || zero.Cmp(a) != 0 || a.String() != "0" {
			t.Errorf("%d: %s isn't the zero value", i, a)
		}
	}
}

func TestParse(t *testing.T) { // P1.1
	nines := strings.Repeat("9", 60)
	for _, s := range []string{"0", "1", "-1", "9", "10", "-10", "100", "18446744073709551615", "18446744073709551616", "-18446744073709551617", nines, "-" + nines, "1" + strings.Repeat("0", 59)} {
		a, e := zed.Parse(s)
		if e != api.OK || a.String() != s {
			t.Errorf("%q: %s %d", s, a, e)
		}
	}
	for _, x := range numbers(500) {
		if s := x.String(); len(strings.TrimPrefix(s, "-")) <= api.MaxDigits {
			a, e := zed.Parse(s)
			if e != api.OK || a.Cmp(made(x)) != 0 {
				t.Errorf("%q: %s %d", s, a, e)
			}
		}
	}
}

func TestParseErrors(t *testing.T) { // P1.1
	nines := strings.Repeat("9", 60)
	for _, x := range []struct {
		s string
		e api.Errno
	}{
		{"", api.ErrForm}, {"-", api.ErrForm}, {"-0", api.ErrForm}, {"00", api.ErrForm}, {"01", api.ErrForm}, {"-01", api.ErrForm}, {"+1", api.ErrForm}, {"+0", api.ErrForm}, {"--1", api.ErrForm}, {"1-", api.ErrForm}, {"1-1", api.ErrForm}, {" 1", api.ErrForm}, {"1 ", api.ErrForm}, {"1\n", api.ErrForm}, {"1_000", api.ErrForm}, {"0x1", api.ErrForm}, {"1e3", api.ErrForm}, {"1.0", api.ErrForm}, {"a", api.ErrForm}, {"/", api.ErrForm}, {":", api.ErrForm}, {"\x00", api.ErrForm}, {"\xff", api.ErrForm}, {"\u0661", api.ErrForm}, {"\u22121", api.ErrForm},
		{strings.Repeat("0", 60), api.ErrForm}, {"-" + strings.Repeat("x", 60), api.ErrForm}, {"-" + nines[1:] + "x", api.ErrForm},
		{nines + "9", api.ErrSize}, {"-" + nines + "9", api.ErrSize}, {strings.Repeat("0", 61), api.ErrSize}, {strings.Repeat("x", 61), api.ErrSize}, {"--" + nines, api.ErrSize}, {"+" + nines, api.ErrSize}, {nines + " ", api.ErrSize}, {strings.Repeat("-", 62), api.ErrSize}, {strings.Repeat("1", 1<<16), api.ErrSize},
	} {
		a, e := zed.Parse(x.s)
		if e != x.e || !reflect.DeepEqual(a, zed.Int{}) {
			t.Errorf("%q: %s %d, want %d", x.s, a, e, x.e)
		}
	}
}

func TestSignNegAbs(t *testing.T) { // P1.2
	for _, x := range numbers(500) {
		a := made(x)
		if a.Sign() != x.Sign() {
			t.Errorf("%s: sign %d", x, a.Sign())
		}
		same(t, "Neg", a.Neg(), new(big.Int).Neg(x))
		same(t, "Abs", a.Abs(), new(big.Int).Abs(x))
		same(t, "Neg twice", a.Neg().Neg(), x)
	}
}

func TestTwoNumbers(t *testing.T) { // P1.2
	pairs(t, func(x, y *big.Int, a, b zed.Int) {
		if a.Cmp(b) != x.Cmp(y) || b.Cmp(a) != y.Cmp(x) {
			t.Fatalf("Cmp of %s and %s: %d", x, y, a.Cmp(b))
		}
		same(t, "Add", a.Add(b), new(big.Int).Add(x, y))
		same(t, "Sub", a.Sub(b), new(big.Int).Sub(x, y))
		same(t, "Mul", a.Mul(b), new(big.Int).Mul(x, y))
	})
	for _, x := range numbers(100) {
		a := made(x)
		if a.Cmp(a) != 0 || a.Cmp(made(x)) != 0 {
			t.Errorf("%s isn't itself", x)
		}
		same(t, "Sub of itself", a.Sub(a), new(big.Int))
		same(t, "square", a.Mul(a), new(big.Int).Mul(x, x))
	}
}

func TestCmpBesideEachOther(t *testing.T) { // P1.2
	one := zed.From(1)
	for _, x := range numbers(300) {
		a := made(x)
		if more := a.Add(one); a.Cmp(more) != -1 || more.Cmp(a) != 1 {
			t.Errorf("%s and one more: %d %d", x, a.Cmp(more), more.Cmp(a))
		}
	}
}

func TestAddOfManyParts(t *testing.T) { // P1.2
	want := new(big.Int)
	var parts []zed.Int
	for _, x := range numbers(300) {
		want.Add(want, x)
		parts = append(parts, made(x))
	}
	same(t, "all", zed.Int{}.Add(parts...), want)
	same(t, "all but the first", parts[0].Add(parts[1:]...), want)
	same(t, "of none", zed.From(-7).Add(), big.NewInt(-7))
	same(t, "of nil", zed.From(-7).Add(nil...), big.NewInt(-7))
	same(t, "of three", zed.From(1).Add(zed.From(2), zed.From(-5), zed.From(4)), big.NewInt(2))
}

func TestDivModSmall(t *testing.T) { // P1.3
	for _, x := range []struct{ a, b, q, r int }{
		{7, 2, 3, 1}, {-7, 2, -4, 1}, {7, -2, -3, 1}, {-7, -2, 4, 1}, {6, 3, 2, 0}, {-6, 3, -2, 0}, {6, -3, -2, 0}, {-6, -3, 2, 0}, {0, 5, 0, 0}, {0, -5, 0, 0}, {1, 5, 0, 1}, {-1, 5, -1, 4}, {-1, -5, 1, 4}, {5, 5, 1, 0}, {-5, 5, -1, 0}, {5, 1, 5, 0}, {-5, -1, 5, 0}, {math.MaxInt, math.MinInt, 0, math.MaxInt},
	} {
		q, r, e := zed.From(x.a).DivMod(zed.From(x.b))
		if e != api.OK || q.Cmp(zed.From(x.q)) != 0 || r.Cmp(zed.From(x.r)) != 0 {
			t.Errorf("%d by %d: %s %s %d", x.a, x.b, q, r, e)
		}
	}
}

func TestDivModByZero(t *testing.T) { // P1.3
	for _, x := range append(numbers(20), new(big.Int)) {
		q, r, e := made(x).DivMod(zed.Int{})
		if e != api.ErrZero || !reflect.DeepEqual(q, zed.Int{}) || !reflect.DeepEqual(r, zed.Int{}) {
			t.Errorf("%s by 0: %s %s %d", x, q, r, e)
		}
	}
}

func checkDivMod(t *testing.T, x, y *big.Int) {
	t.Helper()
	if y.Sign() == 0 {
		return
	}
	q, r, e := made(x).DivMod(made(y))
	if e != api.OK {
		t.Fatalf("%s by %s: %d", x, y, e)
	}
	wantQ, wantR := new(big.Int).DivMod(x, y, new(big.Int)) // its rest is never below 0, too
	same(t, "quotient of "+x.String()+" by "+y.String(), q, wantQ)
	same(t, "rest of "+x.String()+" by "+y.String(), r, wantR)
}

func TestDivModLarge(t *testing.T) { // P1.3
	pairs(t, func(x, y *big.Int, a, b zed.Int) { checkDivMod(t, x, y) })
}

// TestDivModBesideMultiples asks where a first guess of a word of the quotient is too great.
func TestDivModBesideMultiples(t *testing.T) { // P1.3
	l := numbers(120)
	one := big.NewInt(1)
	for _, x := range l[:60] {
		for _, y := range l[60:] {
			p := new(big.Int).Mul(x, y)
			checkDivMod(t, p, y)
			checkDivMod(t, new(big.Int).Sub(p, one), y)
			checkDivMod(t, new(big.Int).Add(p, one), y)
		}
	}
	half := new(big.Int).Lsh(one, 63)
	for _, low := range []uint64{1, math.MaxUint64 - 1, math.MaxUint64} {
		y := new(big.Int).Lsh(half, 64)
		y.Add(y, new(big.Int).SetUint64(low))
		for _, shift := range []uint{64, 128, 192} {
			checkDivMod(t, new(big.Int).Lsh(half, 64+shift), y)
			checkDivMod(t, new(big.Int).Sub(new(big.Int).Lsh(y, shift), one), y)
		}
	}
}

func TestSmall(t *testing.T) { // P1.4
	for _, n := range []int{0, 1, -1, 1<<32 + 5, 1<<62 - 1, 1 << 62, -1<<62 + 1, -1 << 62} {
		if got, ok := zed.From(n).Small(); !ok || got != n {
			t.Errorf("%d: %d %t", n, got, ok)
		}
	}
	two64 := zed.From(1 << 32).Mul(zed.From(1 << 32))
	for _, a := range []zed.Int{zed.From(1<<62 + 1), zed.From(-1<<62 - 1), zed.From(math.MaxInt), zed.From(math.MinInt), two64.Sub(zed.From(1)), two64, two64.Add(zed.From(7)), two64.Neg(), two64.Mul(two64)} {
		if got, ok := a.Small(); ok || got != 0 {
			t.Errorf("%s: %d %t", a, got, ok)
		}
	}
}

func TestBits(t *testing.T) { // P1.4
	for _, x := range []struct{ n, bits int }{{0, 0}, {1, 1}, {-1, 1}, {2, 2}, {3, 2}, {4, 3}, {-255, 8}, {256, 9}, {math.MaxInt, 63}, {math.MinInt, 64}} {
		if got := zed.From(x.n).Bits(); got != x.bits {
			t.Errorf("%d: %d", x.n, got)
		}
	}
	a := zed.From(1)
	for i := range 300 {
		if a.Bits() != i+1 || a.Neg().Bits() != i+1 || i > 0 && a.Sub(zed.From(1)).Bits() != i {
			t.Errorf("2 to the power of %d: %d", i, a.Bits())
		}
		a = a.Add(a)
	}
}

func TestGcd(t *testing.T) { // P1.5
	for _, x := range []struct {
		l    []int
		want int
	}{
		{nil, 0}, {[]int{0}, 0}, {[]int{0, 0, 0}, 0}, {[]int{5}, 5}, {[]int{-5}, 5}, {[]int{0, -5}, 5}, {[]int{-5, 0}, 5}, {[]int{12, -18, 0}, 6}, {[]int{6, 10, 15}, 1}, {[]int{-4, -6, -8}, 2}, {[]int{7, 7}, 7}, {[]int{1, 0}, 1},
	} {
		var l []zed.Int
		for _, n := range x.l {
			l = append(l, zed.From(n))
		}
		if g := zed.Gcd(l...); g.Cmp(zed.From(x.want)) != 0 {
			t.Errorf("%v: %s", x.l, g)
		}
	}
	pairs(t, func(x, y *big.Int, a, b zed.Int) {
		want := new(big.Int).GCD(nil, nil, new(big.Int).Abs(x), new(big.Int).Abs(y))
		same(t, "Gcd", zed.Gcd(a, b), want)
		c := zed.From(360360)
		same(t, "Gcd of three", zed.Gcd(a.Mul(c), c, b.Mul(c)), big.NewInt(360360))
	})
}

func TestLcm(t *testing.T) { // P1.5
	for _, x := range []struct{ a, b, want int }{{4, 6, 12}, {4, -6, 12}, {-4, 6, 12}, {-4, -6, 12}, {0, 5, 0}, {5, 0, 0}, {0, 0, 0}, {-3, 0, 0}, {1, 1, 1}, {-7, 7, 7}, {3, 9, 9}, {1, -8, 8}} {
		if m := zed.Lcm(zed.From(x.a), zed.From(x.b)); m.Cmp(zed.From(x.want)) != 0 {
			t.Errorf("%d, %d: %s", x.a, x.b, m)
		}
	}
	pairs(t, func(x, y *big.Int, a, b zed.Int) {
		want := new(big.Int)
		if x.Sign() != 0 && y.Sign() != 0 {
			p := new(big.Int).Abs(new(big.Int).Mul(x, y))
			want.Div(p, new(big.Int).GCD(nil, nil, new(big.Int).Abs(x), new(big.Int).Abs(y)))
		}
		same(t, "Lcm", zed.Lcm(a, b), want)
	})
}

func TestPow(t *testing.T) { // P1.5
	for _, x := range numbers(25) {
		a := made(x)
		for _, n := range []int{0, 1, 2, 3, 7, 20} {
			p, e := zed.Pow(a, n)
			if e != api.OK {
				t.Fatal(x, n, e)
			}
			same(t, "Pow", p, new(big.Int).Exp(x, big.NewInt(int64(n)), nil))
		}
	}
	for _, x := range []int{0, 1, -1, 2, -2, 10} {
		for _, n := range []int{0, 999, 1000} {
			p, e := zed.Pow(zed.From(x), n)
			if e != api.OK {
				t.Fatal(x, n, e)
			}
			same(t, "Pow", p, new(big.Int).Exp(big.NewInt(int64(x)), big.NewInt(int64(n)), nil))
		}
	}
	for _, n := range []int{-1, 1001, math.MinInt, math.MaxInt} {
		for _, a := range []zed.Int{{}, zed.From(1), zed.From(-3)} {
			if p, e := zed.Pow(a, n); e != api.ErrRange || !reflect.DeepEqual(p, zed.Int{}) {
				t.Errorf("%s to the power of %d: %s %d", a, n, p, e)
			}
		}
	}
}

func TestBest(t *testing.T) { // P1.5
	least, most, e := zed.Best()
	if e != api.ErrNone || !reflect.DeepEqual(least, zed.Int{}) || !reflect.DeepEqual(most, zed.Int{}) {
		t.Error(least, most, e)
	}
	l := numbers(200)
	for n := 1; n <= len(l); n++ {
		sorted := slices.Clone(l[:n])
		slices.SortFunc(sorted, (*big.Int).Cmp)
		var given []zed.Int
		for _, x := range l[:n] {
			given = append(given, made(x))
		}
		least, most, e := zed.Best(given...)
		if e != api.OK {
			t.Fatal(n, e)
		}
		same(t, "least", least, sorted[0])
		same(t, "most", most, sorted[n-1])
	}
}

// TestNothingIsChanged: no call changes the numbers or the list that it is given, or the list's spare room.
func TestNothingIsChanged(t *testing.T) { // P1, Memory
	l := numbers(12)
	room := make([]zed.Int, 0, len(l))
	for _, x := range l {
		room = append(room, made(x))
	}
	given := room[:6]
	calls := []func(a, b zed.Int){
		func(a, b zed.Int) { a.Add(given...); a.Add(b, b, a) },
		func(a, b zed.Int) { a.Sub(b); a.Neg(); a.Abs() },
		func(a, b zed.Int) { a.Mul(b) },
		func(a, b zed.Int) {
			q, r, _ := a.DivMod(b)
			q.Add(r, q).Mul(q)
			r.Add(q, r).Mul(r)
		},
		func(a, b zed.Int) { _ = a.String(); a.Cmp(b); a.Sign(); a.Small(); a.Bits() },
		func(a, b zed.Int) { zed.Gcd(given...); zed.Gcd(a, b); zed.Lcm(a, b) },
		func(a, b zed.Int) { zed.Pow(a, 3); zed.Best(given...) },
	}
	for i, call := range calls {
		for _, a := range room {
			for _, b := range room {
				call(a, b)
			}
		}
		for j, a := range room {
			if a.String() != l[j].String() {
				t.Fatalf("call %d made %s of %s", i, a, l[j])
			}
		}
	}
}
