package tests

import (
	"math"
	"math/big"
	"slices"
	"strings"
	"testing"

	"loop.example/g00108/impl"
)

const rounds = 4000

func TestNumOk(t *testing.T) {
	good := []impl.Num{{}, {Mag: []uint32{}}, {Mag: []uint32{1}}, {Neg: true, Mag: []uint32{1}},
		{Mag: []uint32{0, 1}}, full(impl.MaxLimbs, math.MaxUint32), {Neg: true, Mag: full(impl.MaxLimbs, 1).Mag}}
	for _, a := range good {
		if !impl.NumOk(a) {
			t.Error("is a number:", a)
		}
	}
	for why, a := range wrongNums() {
		if impl.NumOk(a) {
			t.Error("is no number:", why)
		}
	}
}

func TestOfAndSmallComeBack(t *testing.T) {
	list := []int{0, 1, -1, 1<<31 - 1, 1 << 31, 1<<32 - 1, 1 << 32, 1<<32 + 1, -(1<<32 - 1), -(1 << 32), -(1<<32 + 1),
		math.MaxInt, math.MaxInt - 1, math.MinInt, math.MinInt + 1}
	d := &dice{1}
	for range rounds {
		list = append(list, int(d.next())>>d.below(64))
	}
	for _, n := range list {
		a := impl.Of(n)
		checkNum(t, "Of", a, big.NewInt(int64(n)))
		if !impl.NumOk(a) {
			t.Error("Of is no number:", n)
		}
		if m, ok := impl.Small(a); !ok || m != n {
			t.Error("Small of Of:", n, m, ok)
		}
	}
}

func TestSmallAtItsEnds(t *testing.T) {
	for _, c := range []struct {
		text string
		n    int
		ok   bool
	}{
		{"9223372036854775807", math.MaxInt, true},
		{"9223372036854775808", 0, false},
		{"-9223372036854775808", math.MinInt, true},
		{"-9223372036854775809", 0, false},
		{"18446744073709551615", 0, false},
		{"-18446744073709551615", 0, false},
		{"18446744073709551616", 0, false},
		{"18446744073709551617", 0, false},
		{"-18446744073709551616", 0, false},
	} {
		if n, ok := impl.Small(numOf(t, c.text)); n != c.n || ok != c.ok {
			t.Error(c.text, n, ok)
		}
	}
	if n, ok := impl.Small(full(impl.MaxLimbs, 1)); n != 0 || ok {
		t.Error("great", n, ok)
	}
}

func TestSumsAndProducts(t *testing.T) {
	d := &dice{2}
	for range rounds {
		a, b := d.num(impl.MaxLimbs), d.num(impl.MaxLimbs)
		x, y := bigOf(a), bigOf(b)
		checkNum(t, "Add", impl.Add(a, b), new(big.Int).Add(x, y))
		checkNum(t, "Sub", impl.Sub(a, b), new(big.Int).Sub(x, y))
		checkNum(t, "Mul", impl.Mul(a, b), new(big.Int).Mul(x, y))
		checkNum(t, "Neg", impl.Neg(a), new(big.Int).Neg(x))
		if c := impl.Cmp(a, b); c != x.Cmp(y) {
			t.Error("Cmp", x, y, c)
		}
		if c := impl.Sign(a); c != x.Sign() {
			t.Error("Sign", x, c)
		}
	}
}

func TestSumsComeBack(t *testing.T) {
	d := &dice{3}
	for range rounds {
		// One limb less than may be, so that the sum is a number that can be handed in again.
		a, b := d.num(impl.MaxLimbs-1), d.num(impl.MaxLimbs-1)
		if !sameNum(impl.Sub(impl.Add(a, b), b), a) || !sameNum(impl.Add(impl.Sub(a, b), b), a) {
			t.Error("sum", a, b)
		}
		if !sameNum(impl.Sub(a, a), impl.Num{}) || !sameNum(impl.Neg(impl.Neg(a)), a) {
			t.Error("less itself, or turned twice", a)
		}
		if impl.Cmp(a, a) != 0 || impl.Cmp(a, b) != -impl.Cmp(b, a) || impl.Cmp(a, b) != impl.Sign(impl.Sub(a, b)) {
			t.Error("order", a, b)
		}
	}
}

func TestNumbersNextToEachOther(t *testing.T) {
	d := &dice{4}
	for range rounds {
		a := d.num(impl.MaxLimbs - 1)
		above, below := impl.Add(a, impl.Of(1)), impl.Sub(a, impl.Of(1))
		if impl.Cmp(a, above) != -1 || impl.Cmp(a, below) != 1 || impl.Cmp(below, above) != -1 {
			t.Error("order", a)
		}
	}
}

func TestProductsWithManyLimbs(t *testing.T) {
	top := full(impl.MaxLimbs, math.MaxUint32)
	p := impl.Mul(top, impl.Neg(top))
	checkNum(t, "Mul", p, new(big.Int).Mul(bigOf(top), new(big.Int).Neg(bigOf(top))))
	if len(p.Mag) != 2*impl.MaxLimbs || impl.NumOk(p) {
		t.Error("limbs of a product:", len(p.Mag))
	}
	if impl.Sign(p) != 0 || impl.NumText(p) != "0" || impl.Cmp(p, impl.Of(0)) != 0 {
		t.Error("a product with too many limbs is taken as 0")
	}
	sum := impl.Add(top, impl.Of(1))
	if len(sum.Mag) != impl.MaxLimbs+1 || sum.Mag[impl.MaxLimbs] != 1 || impl.Sign(sum) != 0 {
		t.Error("limbs of a sum:", sum)
	}
	just := impl.Mul(full(impl.MaxLimbs/2, math.MaxUint32), full(impl.MaxLimbs/2, math.MaxUint32))
	if len(just.Mag) != impl.MaxLimbs || !impl.NumOk(just) || impl.Sign(just) != 1 {
		t.Error("a product with as many limbs as may be:", just)
	}
}

func TestDivModOfSigns(t *testing.T) {
	for _, c := range [][4]int{
		{7, 2, 3, 1}, {-7, 2, -4, 1}, {7, -2, -3, 1}, {-7, -2, 4, 1},
		{6, 2, 3, 0}, {-6, 2, -3, 0}, {6, -2, -3, 0}, {-6, -2, 3, 0},
		{1, 5, 0, 1}, {-1, 5, -1, 4}, {1, -5, 0, 1}, {-1, -5, 1, 4},
		{5, 5, 1, 0}, {-5, 5, -1, 0}, {5, -5, -1, 0}, {-5, -5, 1, 0},
		{0, 3, 0, 0}, {0, -3, 0, 0}, {9, 1, 9, 0}, {-9, -1, 9, 0},
	} {
		q, r, ok := impl.DivMod(impl.Of(c[0]), impl.Of(c[1]))
		if !ok || !sameNum(q, impl.Of(c[2])) || !sameNum(r, impl.Of(c[3])) {
			t.Error(c, q, r, ok)
		}
	}
}

// checkDivMod holds q and r against what the document says of them, and against the library.
func checkDivMod(t *testing.T, a, b impl.Num) {
	t.Helper()
	q, r, ok := impl.DivMod(a, b)
	if !ok {
		t.Error("not divided:", a, b)
		return
	}
	x, y := bigOf(a), bigOf(b)
	wantQ, wantR := new(big.Int).DivMod(x, y, new(big.Int))
	checkNum(t, "q", q, wantQ)
	checkNum(t, "r", r, wantR)
	back := new(big.Int).Mul(bigOf(q), y)
	if back.Add(back, bigOf(r)).Cmp(x) != 0 || r.Neg || bigOf(r).CmpAbs(y) >= 0 {
		t.Error("q b + r:", a, b, q, r)
	}
}

func TestDivModComesBack(t *testing.T) {
	d := &dice{5}
	for range rounds * 4 {
		a, b := d.num(impl.MaxLimbs), d.num(1+d.below(impl.MaxLimbs))
		if len(b.Mag) > 0 {
			checkDivMod(t, a, b)
		}
	}
}

func TestDivModNextToMultiples(t *testing.T) {
	d := &dice{6}
	for range rounds {
		q, b := d.num(impl.MaxLimbs/2), d.num(impl.MaxLimbs/2-1)
		if len(b.Mag) == 0 {
			continue
		}
		p := impl.Mul(q, b)
		checkDivMod(t, p, b)
		checkDivMod(t, impl.Add(p, impl.Of(1)), b)
		checkDivMod(t, impl.Sub(p, impl.Of(1)), b)
	}
}

func TestDivModOfFewLimbs(t *testing.T) {
	limbs := []uint32{0, 1, 2, 3, 1<<31 - 1, 1 << 31, 1<<31 + 1, 1<<32 - 2, 1<<32 - 1}
	var nums []impl.Num
	for _, x := range limbs {
		for _, y := range limbs {
			for _, z := range limbs[1:] {
				nums = append(nums, impl.Num{Mag: []uint32{x, y, z}})
			}
			if y > 0 {
				nums = append(nums, impl.Num{Mag: []uint32{x, y}})
			}
		}
	}
	for _, a := range nums {
		for _, b := range nums {
			checkDivMod(t, a, b)
		}
	}
}

func TestDivModByNought(t *testing.T) {
	for _, a := range []impl.Num{{}, impl.Of(5), impl.Of(-5), full(impl.MaxLimbs, 1)} {
		q, r, ok := impl.DivMod(a, impl.Num{})
		if ok || !sameNum(q, impl.Num{}) || !sameNum(r, impl.Num{}) {
			t.Error("by nought:", q, r, ok)
		}
	}
}

func TestGcd(t *testing.T) {
	for _, c := range [][3]int{{12, 18, 6}, {-12, 18, 6}, {12, -18, 6}, {-12, -18, 6}, {7, 9, 1}, {5, 5, 5}, {4, 12, 4}, {12, 4, 4},
		{0, 0, 0}, {0, 9, 9}, {0, -9, 9}, {9, 0, 9}, {-9, 0, 9}, {1, -1, 1}} {
		if g := impl.Gcd(impl.Of(c[0]), impl.Of(c[1])); !sameNum(g, impl.Of(c[2])) {
			t.Error(c, g)
		}
	}
	d := &dice{7}
	for range rounds / 2 {
		// A common part makes divisors that are not mostly 1.
		part := d.num(impl.MaxLimbs / 2)
		a, b := impl.Mul(part, d.num(impl.MaxLimbs/2)), impl.Mul(part, d.num(impl.MaxLimbs/2))
		x, y := bigOf(a), bigOf(b)
		checkNum(t, "Gcd", impl.Gcd(a, b), new(big.Int).GCD(nil, nil, x.Abs(x), y.Abs(y)))
	}
}

func TestDigitsThereAndBack(t *testing.T) {
	d := &dice{8}
	list := []impl.Num{{}, full(impl.MaxLimbs, math.MaxUint32), impl.Neg(full(impl.MaxLimbs, math.MaxUint32))}
	for range rounds {
		list = append(list, d.num(impl.MaxLimbs))
	}
	for _, a := range list {
		text := impl.NumText(a)
		if text != bigOf(a).String() {
			t.Error("NumText", bigOf(a), text)
		}
		if b, ok := impl.ParseNum(text); !ok || !sameNum(a, b) {
			t.Error("ParseNum of NumText", text, b, ok)
		}
	}
}

func TestDigitsAroundPowersOfTen(t *testing.T) {
	for n := range 231 {
		nines, ten := strings.Repeat("9", n+1), "1"+strings.Repeat("0", n)
		for _, s := range []string{nines, "-" + nines, ten, "-" + ten, ten[:n] + "7", "1" + nines[:n]} {
			if text := impl.NumText(numOf(t, s)); text != s {
				t.Error(s, text)
			}
		}
	}
}

func TestTextsThatAreNoNumbers(t *testing.T) {
	for _, s := range []string{"", "-", "--", "--1", "-0", "00", "-00", "01", "-01", "007", "+1", "+", "+0", "1-", "1-1", "- 1",
		" ", " 1", "1 ", "1 2", "-\t1", "1\n", "\x001", "1\x00", "0x1", "1e3", "1.0", "1,000", "1_0", "a", "1a1", "/", ":", "1/", "1:",
		"\xff", "1\xff", "\xc3", "\u0661", "\uff11", "1\u0662", "\u22121", "\ufffd", "−5"} {
		if a, ok := impl.ParseNum(s); ok || !sameNum(a, impl.Num{}) {
			t.Errorf("%q: %v %v", s, a, ok)
		}
	}
	for b := range 256 {
		s := string([]byte{'1', byte(b), '2'})
		if a, ok := impl.ParseNum(s); ok != (b >= '0' && b <= '9') || !ok && !sameNum(a, impl.Num{}) {
			t.Errorf("%q: %v %v", s, a, ok)
		}
	}
}

func TestMaxDigits(t *testing.T) {
	for _, first := range []string{"1", "9", "-1", "-9"} {
		just := first + strings.Repeat("9", impl.MaxDigits-1)
		a, ok := impl.ParseNum(just)
		if !ok {
			t.Error("as many digits as may be are refused:", first)
		}
		want, _ := new(big.Int).SetString(just, 10)
		checkNum(t, "as many digits as may be", a, want)
		if a, ok := impl.ParseNum(just + "9"); ok || !sameNum(a, impl.Num{}) {
			t.Error("a digit too many:", first, a, ok)
		}
	}
	for _, s := range []string{strings.Repeat("0", impl.MaxDigits), strings.Repeat("9", 100000), strings.Repeat("0", 100000)} {
		if _, ok := impl.ParseNum(s); ok {
			t.Error("no number of this length:", len(s))
		}
	}
}

func TestMaxLimbsInText(t *testing.T) {
	top := new(big.Int).Lsh(big.NewInt(1), 32*impl.MaxLimbs)
	past := top.String()
	just := new(big.Int).Sub(top, big.NewInt(1)).String()
	if a := numOf(t, just); !impl.NumOk(a) || impl.NumText(a) != just {
		t.Error("as many limbs as may be:", a)
	}
	if a := numOf(t, past); impl.NumOk(a) || len(a.Mag) != impl.MaxLimbs+1 || impl.NumText(a) != "0" {
		t.Error("a limb too many:", a)
	}
}

func TestWrongNumsAreTakenAsNought(t *testing.T) {
	zero := impl.Num{}
	five := impl.Of(5)
	for why, w := range wrongNums() {
		if n, ok := impl.Small(w); n != 0 || !ok {
			t.Error("Small:", why, n, ok)
		}
		if s := impl.NumText(w); s != "0" {
			t.Error("NumText:", why, s)
		}
		for _, c := range []struct {
			what      string
			got, want impl.Num
		}{
			{"Neg", impl.Neg(w), zero},
			{"Add 1", impl.Add(w, five), five}, {"Add 2", impl.Add(five, w), five}, {"Add both", impl.Add(w, w), zero},
			{"Sub 1", impl.Sub(w, five), impl.Of(-5)}, {"Sub 2", impl.Sub(five, w), five}, {"Sub both", impl.Sub(w, w), zero},
			{"Mul 1", impl.Mul(w, five), zero}, {"Mul 2", impl.Mul(five, w), zero},
			{"Gcd 1", impl.Gcd(w, five), five}, {"Gcd 2", impl.Gcd(five, w), five}, {"Gcd both", impl.Gcd(w, w), zero},
		} {
			if !sameNum(c.got, c.want) {
				t.Error(c.what, why, c.got)
			}
		}
		if impl.Sign(w) != 0 || impl.Cmp(w, zero) != 0 || impl.Cmp(zero, w) != 0 ||
			impl.Cmp(w, five) != -1 || impl.Cmp(five, w) != 1 || impl.Cmp(w, impl.Of(-5)) != 1 || impl.Cmp(w, w) != 0 {
			t.Error("order:", why)
		}
		if q, r, ok := impl.DivMod(w, five); !ok || !sameNum(q, zero) || !sameNum(r, zero) {
			t.Error("DivMod 1:", why, q, r, ok)
		}
		if q, r, ok := impl.DivMod(five, w); ok || !sameNum(q, zero) || !sameNum(r, zero) {
			t.Error("DivMod 2:", why, q, r, ok)
		}
	}
}

// calls are all that answer numbers, of two arguments.
func calls() map[string]func(a, b impl.Num) []impl.Num {
	return map[string]func(a, b impl.Num) []impl.Num{
		"Neg": func(a, b impl.Num) []impl.Num { return []impl.Num{impl.Neg(a), impl.Neg(b)} },
		"Add": func(a, b impl.Num) []impl.Num { return []impl.Num{impl.Add(a, b)} },
		"Sub": func(a, b impl.Num) []impl.Num { return []impl.Num{impl.Sub(a, b)} },
		"Mul": func(a, b impl.Num) []impl.Num { return []impl.Num{impl.Mul(a, b)} },
		"DivMod": func(a, b impl.Num) []impl.Num {
			q, r, _ := impl.DivMod(a, b)
			return []impl.Num{q, r}
		},
		"Gcd": func(a, b impl.Num) []impl.Num { return []impl.Num{impl.Gcd(a, b)} },
		"tells": func(a, b impl.Num) []impl.Num {
			impl.NumOk(a)
			impl.Small(a)
			impl.Cmp(a, b)
			impl.Sign(a)
			impl.NumText(a)
			return nil
		},
	}
}

// roomy is a with limbs of its own and spare room behind them, and all of that room.
func roomy(a impl.Num) (impl.Num, []uint32) {
	room := append(slices.Clone(a.Mag), 11, 12, 13)
	return impl.Num{Neg: a.Neg, Mag: room[:len(a.Mag)]}, room
}

// scribble writes into all of a number's memory, spare room and all.
func scribble(a impl.Num) {
	all := a.Mag[:cap(a.Mag)]
	for i := range all {
		all[i] = ^all[i]
	}
}

func memoryPairs() [][2]impl.Num {
	d := &dice{9}
	one, great := impl.Of(1), full(impl.MaxLimbs, math.MaxUint32)
	pairs := [][2]impl.Num{{{}, {}}, {one, {}}, {{}, one}, {one, one}, {great, {}}, {{}, great}, {great, one}, {one, great},
		{great, great}, {impl.Neg(one), great}, {great, full(impl.MaxLimbs+1, 1)}, {full(impl.MaxLimbs+1, 1), great}}
	for range 300 {
		pairs = append(pairs, [2]impl.Num{d.num(impl.MaxLimbs), d.num(6)})
	}
	return pairs
}

func TestArgumentsStayAsTheyAre(t *testing.T) {
	for what, call := range calls() {
		for _, p := range memoryPairs() {
			a, roomA := roomy(p[0])
			b, roomB := roomy(p[1])
			keptA, keptB := slices.Clone(roomA), slices.Clone(roomB)
			for _, answer := range call(a, b) {
				scribble(answer)
			}
			if !slices.Equal(roomA, keptA) || !slices.Equal(roomB, keptB) {
				t.Error(what, "writes into an argument, or shares its memory:", p)
			}
		}
	}
}

func TestAnswersAreTheirOwn(t *testing.T) {
	for what, call := range inOrder(calls()) {
		for _, p := range memoryPairs() {
			want := call(p[0], p[1])
			for i := range want {
				a, _ := roomy(p[0])
				b, _ := roomy(p[1])
				answers, others := call(a, b), call(a, b)
				others = append(others, a, b)
				others = append(others, answers[:i]...)
				others = append(others, answers[i+1:]...)
				for _, other := range others {
					scribble(other)
				}
				if !sameNum(answers[i], want[i]) {
					t.Error(what, "answers with memory that is not its own:", p)
				}
			}
		}
	}
}

func TestTheSameArgumentTwice(t *testing.T) {
	d := &dice{10}
	for range rounds / 4 {
		a := d.num(impl.MaxLimbs)
		x := bigOf(a)
		checkNum(t, "a + a", impl.Add(a, a), new(big.Int).Add(x, x))
		checkNum(t, "a times a", impl.Mul(a, a), new(big.Int).Mul(x, x))
		checkNum(t, "Gcd of a and a", impl.Gcd(a, a), new(big.Int).Abs(x))
		if q, r, ok := impl.DivMod(a, a); len(a.Mag) > 0 && (!ok || !sameNum(q, impl.Of(1)) || !sameNum(r, impl.Num{})) {
			t.Error("a through a", a, q, r, ok)
		}
	}
}
