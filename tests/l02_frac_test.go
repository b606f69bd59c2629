package tests

import (
	"math"
	"math/big"
	"slices"
	"testing"

	"loop.example/g00108/impl"
)

// frac is FracOk, mostly not in lowest terms, with at most limbs limbs in each part.
func (d *dice) frac(limbs int) impl.Frac {
	half := limbs / 2
	part := d.num(limbs - half)
	a := impl.Frac{N: impl.Mul(part, d.num(half)), D: impl.Mul(part, d.num(half))}
	if impl.Sign(a.D) < 0 {
		a.D = impl.Neg(a.D)
	}
	if impl.Sign(a.D) == 0 {
		a.N, a.D = d.num(limbs), impl.Of(1+d.below(9))
	}
	return a
}

func fracOf(t *testing.T, n, d int) impl.Frac {
	t.Helper()
	a, ok := impl.FracOf(n, d)
	if !ok {
		t.Fatal("no fraction:", n, d)
	}
	return a
}

// ratOf is the fraction by the library's reckoning.
func ratOf(a impl.Frac) *big.Rat { return new(big.Rat).SetFrac(bigOf(a.N), bigOf(a.D)) }

// checkFrac: got is want, in lowest terms (as the library keeps it), and can be handed in again.
func checkFrac(t *testing.T, what string, got impl.Frac, want *big.Rat) {
	t.Helper()
	checkNum(t, what+", N", got.N, want.Num())
	checkNum(t, what+", D", got.D, want.Denom())
	if !impl.FracOk(got) {
		t.Error(what, "is no fraction:", got)
	}
}

func checkNought(t *testing.T, what string, got impl.Frac) {
	t.Helper()
	checkFrac(t, what, got, new(big.Rat))
}

// powerOf is 2 to the power of bits: it has a limb for each 32 of them, and one more.
func powerOf(bits int) impl.Num {
	mag := make([]uint32, bits/32+1)
	mag[bits/32] = 1 << (bits % 32)
	return impl.Num{Mag: mag}
}

// fits: whether both parts of the fraction have at most MaxLimbs limbs, in lowest terms.
func fits(r *big.Rat) bool {
	return max(r.Num().BitLen(), r.Denom().BitLen()) <= 32*impl.MaxLimbs
}

// wrongFracs: each is not as a fraction must be, for a reason of its own.
func wrongFracs() map[string]impl.Frac {
	five := impl.Of(5)
	list := map[string]impl.Frac{
		"the zero value":         {},
		"D is nought":            {N: five},
		"D is nought, below":     {N: impl.Of(-5), D: impl.Num{Mag: []uint32{}}},
		"D is below nought":      {N: five, D: impl.Of(-3)},
		"D is -1":                {N: five, D: impl.Of(-1)},
		"both below nought":      {N: impl.Of(-5), D: impl.Of(-5)},
		"nought, D below nought": {D: impl.Of(-1)},
		"D is great, below":      {N: five, D: impl.Neg(full(impl.MaxLimbs, 7))},
		"both have too many":     {N: full(impl.MaxLimbs+1, 6), D: full(impl.MaxLimbs+1, 3)},
	}
	for why, w := range wrongNums() {
		list["N: "+why] = impl.Frac{N: w, D: impl.Of(3)}
		list["D: "+why] = impl.Frac{N: five, D: w}
	}
	return list
}

func TestFracOk(t *testing.T) {
	top := full(impl.MaxLimbs, math.MaxUint32)
	for _, a := range []impl.Frac{{N: impl.Of(0), D: impl.Of(1)}, {N: impl.Num{Mag: []uint32{}}, D: impl.Of(7)}, {N: impl.Of(-4), D: impl.Of(6)},
		{N: impl.Of(6), D: impl.Of(6)}, {N: top, D: top}, {N: impl.Neg(top), D: impl.Of(1)}, {D: top}} {
		if !impl.FracOk(a) {
			t.Error("is a fraction:", a)
		}
	}
	for why, a := range wrongFracs() {
		if impl.FracOk(a) {
			t.Error("is no fraction:", why)
		}
	}
}

func TestFracOfSigns(t *testing.T) {
	for _, c := range [][4]int{
		{6, 4, 3, 2}, {-6, 4, -3, 2}, {6, -4, -3, 2}, {-6, -4, 3, 2},
		{7, 5, 7, 5}, {-7, 5, -7, 5}, {7, -5, -7, 5}, {-7, -5, 7, 5},
		{8, 4, 2, 1}, {-8, 4, -2, 1}, {8, -4, -2, 1}, {-8, -4, 2, 1},
		{4, 8, 1, 2}, {-4, 8, -1, 2}, {4, -8, -1, 2}, {-4, -8, 1, 2},
		{9, 9, 1, 1}, {-9, 9, -1, 1}, {9, -9, -1, 1}, {-9, -9, 1, 1},
		{3, 1, 3, 1}, {3, -1, -3, 1}, {-3, -1, 3, 1},
		{0, 1, 0, 1}, {0, -1, 0, 1}, {0, 12, 0, 1}, {0, -12, 0, 1},
	} {
		a, ok := impl.FracOf(c[0], c[1])
		if !ok || !sameNum(a.N, impl.Of(c[2])) || !sameNum(a.D, impl.Of(c[3])) {
			t.Error(c, a, ok)
		}
	}
}

func TestFracOfAtTheEndsOfInt(t *testing.T) {
	list := []int{math.MinInt, math.MinInt + 1, math.MaxInt, math.MaxInt - 1, 1 << 62, -1 << 62, 1, -1, 2, -2, 3, 7, -7}
	d := &dice{21}
	for range 40 {
		list = append(list, int(d.next())>>d.below(64))
	}
	for _, n := range append(list, 0) {
		for _, by := range list {
			if by == 0 {
				continue
			}
			a, ok := impl.FracOf(n, by)
			if !ok {
				t.Error("refused:", n, by)
			}
			checkFrac(t, "FracOf", a, big.NewRat(1, 1).SetFrac(big.NewInt(int64(n)), big.NewInt(int64(by))))
		}
	}
	for _, c := range []struct {
		n, d int
		text string
	}{
		{math.MinInt, math.MinInt, "1"}, {math.MaxInt, math.MaxInt, "1"},
		{math.MinInt, math.MaxInt, "-9223372036854775808/9223372036854775807"},
		{math.MaxInt, math.MinInt, "-9223372036854775807/9223372036854775808"},
		{math.MinInt, -1, "9223372036854775808"}, {math.MinInt, 1, "-9223372036854775808"},
		{1, math.MinInt, "-1/9223372036854775808"}, {-1, math.MinInt, "1/9223372036854775808"},
		{0, math.MinInt, "0"}, {0, math.MaxInt, "0"}, {math.MinInt, 6, "-4611686018427387904/3"},
	} {
		if text := impl.FracText(fracOf(t, c.n, c.d)); text != c.text {
			t.Error(c, text)
		}
	}
}

func TestFracOfThroughNought(t *testing.T) {
	for _, n := range []int{0, 1, -1, 6, math.MaxInt, math.MinInt} {
		a, ok := impl.FracOf(n, 0)
		if ok {
			t.Error("through nought:", n)
		}
		checkNought(t, "through nought", a)
	}
}

func TestLowestIsTheSame(t *testing.T) {
	d := &dice{22}
	for range rounds {
		a := d.frac(impl.MaxLimbs)
		low := impl.Lowest(a)
		checkFrac(t, "Lowest", low, ratOf(a))
		if impl.CmpFrac(a, low) != 0 || impl.CmpFrac(low, a) != 0 {
			t.Error("is not the same:", a, low)
		}
		if again := impl.Lowest(low); !sameNum(again.N, low.N) || !sameNum(again.D, low.D) {
			t.Error("is not lowest:", low, again)
		}
	}
	top := full(impl.MaxLimbs, math.MaxUint32)
	checkNought(t, "0 through a great one", impl.Lowest(impl.Frac{D: top}))
	checkFrac(t, "a great one through itself", impl.Lowest(impl.Frac{N: impl.Neg(top), D: top}), big.NewRat(-1, 1))
	kept := impl.Lowest(impl.Frac{N: impl.Neg(top), D: powerOf(32*impl.MaxLimbs - 1)})
	if !sameNum(kept.N, impl.Neg(top)) || !sameNum(kept.D, powerOf(32*impl.MaxLimbs-1)) {
		t.Error("nothing in common, and yet changed:", kept)
	}
}

// Scaled by the same number, fractions are the same ones: in lowest terms they look alike.
func TestScaledFractionsAreAlike(t *testing.T) {
	d := &dice{23}
	for range rounds {
		a := impl.Lowest(d.frac(impl.MaxLimbs / 2))
		by := d.num(impl.MaxLimbs / 2)
		if by.Neg = false; len(by.Mag) == 0 {
			continue
		}
		b := impl.Frac{N: impl.Mul(a.N, by), D: impl.Mul(a.D, by)}
		low := impl.Lowest(b)
		if !sameNum(low.N, a.N) || !sameNum(low.D, a.D) || impl.CmpFrac(a, b) != 0 || impl.FracText(a) != impl.FracText(b) {
			t.Error("scaled:", a, by)
		}
	}
}

func TestCmpFrac(t *testing.T) {
	d := &dice{24}
	for range rounds {
		a, b := d.frac(impl.MaxLimbs), d.frac(impl.MaxLimbs)
		want := ratOf(a).Cmp(ratOf(b))
		if impl.CmpFrac(a, b) != want || impl.CmpFrac(b, a) != -want || impl.CmpFrac(a, a) != 0 {
			t.Error("order:", a, b)
		}
	}
	for _, c := range [][5]int{{1, 3, 1, 2, -1}, {-1, 3, -1, 2, 1}, {-1, 2, 1, 3, -1}, {0, 5, 0, 7, 0}, {0, 5, -1, 7, 1}, {0, 5, 1, 7, -1},
		{2, 4, 3, 6, 0}, {-2, 4, -3, 6, 0}, {2, 4, -3, 6, 1}, {7, 1, 50, 7, -1}, {math.MaxInt, 1, math.MinInt, 1, 1},
		{math.MaxInt, math.MaxInt - 1, math.MaxInt - 1, math.MaxInt - 2, -1}} {
		a, b := impl.Frac{N: impl.Of(c[0]), D: impl.Of(c[1])}, impl.Frac{N: impl.Of(c[2]), D: impl.Of(c[3])}
		if impl.CmpFrac(a, b) != c[4] {
			t.Error(c)
		}
	}
}

// With parts of MaxLimbs limbs, the products that are held against each other have twice as many.
func TestCmpFracOfGreatParts(t *testing.T) {
	top := full(impl.MaxLimbs, math.MaxUint32)
	next := impl.Sub(top, impl.Of(1))
	below := impl.Sub(top, impl.Of(2))
	a, b := impl.Frac{N: next, D: top}, impl.Frac{N: below, D: next}
	minusA, minusB := impl.Frac{N: impl.Neg(next), D: top}, impl.Frac{N: impl.Neg(below), D: next}
	for _, c := range []struct {
		a, b impl.Frac
		want int
	}{
		{a, b, 1}, {b, a, -1}, {a, a, 0}, {minusA, minusB, -1}, {minusB, minusA, 1}, {minusA, a, -1}, {a, minusB, 1},
		{impl.Frac{N: top, D: top}, impl.Frac{N: next, D: next}, 0}, {impl.Frac{N: top, D: impl.Of(1)}, impl.Frac{N: next, D: impl.Of(1)}, 1},
		{impl.Frac{N: impl.Of(1), D: top}, impl.Frac{N: impl.Of(1), D: next}, -1}, {impl.Frac{D: top}, impl.Frac{D: next}, 0},
		{impl.Frac{N: impl.Of(1), D: top}, impl.Frac{D: impl.Of(1)}, 1}, {impl.Frac{N: impl.Of(-1), D: top}, impl.Frac{D: impl.Of(1)}, -1},
	} {
		if got := impl.CmpFrac(c.a, c.b); got != c.want {
			t.Error(c, got)
		}
	}
}

func TestCmpFracSorts(t *testing.T) {
	d := &dice{25}
	var list []impl.Frac
	for range 300 {
		list = append(list, d.frac(1+d.below(impl.MaxLimbs)))
	}
	slices.SortFunc(list, impl.CmpFrac)
	for i := range list[1:] {
		if ratOf(list[i]).Cmp(ratOf(list[i+1])) > 0 {
			t.Error("not in order:", list[i], list[i+1])
		}
	}
}

func TestSumsAndProductsOfFractions(t *testing.T) {
	d := &dice{26}
	past := 0
	for range rounds {
		limbs := 1 + d.below(impl.MaxLimbs)
		a, b := d.frac(limbs), d.frac(limbs)
		sum, product := impl.AddFrac(a, b), impl.MulFrac(a, b)
		wantSum, wantProduct := new(big.Rat).Add(ratOf(a), ratOf(b)), new(big.Rat).Mul(ratOf(a), ratOf(b))
		for _, want := range []*big.Rat{wantSum, wantProduct} {
			if !fits(want) {
				past++
				want.SetInt64(0)
			}
		}
		checkFrac(t, "AddFrac", sum, wantSum)
		checkFrac(t, "MulFrac", product, wantProduct)
		turned, other := impl.AddFrac(b, a), impl.MulFrac(b, a)
		if !sameNum(sum.N, turned.N) || !sameNum(sum.D, turned.D) || !sameNum(product.N, other.N) || !sameNum(product.D, other.D) {
			t.Error("the order is to be seen:", a, b)
		}
	}
	if past == 0 || past == 2*rounds {
		t.Error("the limit was met on one side alone:", past)
	}
}

func TestSmallSumsAndProducts(t *testing.T) {
	for _, c := range []struct {
		n, d, m, e   int
		sum, product string
	}{
		{1, 6, 1, 3, "1/2", "1/18"}, {-2, 3, 3, 4, "1/12", "-1/2"}, {1, 2, -1, 2, "0", "-1/4"}, {1, 2, 1, 2, "1", "1/4"},
		{0, 5, 2, 4, "1/2", "0"}, {0, 5, 0, 3, "0", "0"}, {-3, 2, -5, 2, "-4", "15/4"}, {2, 3, 3, 2, "13/6", "1"}, {-2, 3, 3, 2, "5/6", "-1"},
		{math.MaxInt, 1, 1, 1, "9223372036854775808", "9223372036854775807"},
		{math.MinInt, 1, math.MinInt, 1, "-18446744073709551616", "85070591730234615865843651857942052864"},
	} {
		// The parts stand as they are, so that some are not in lowest terms.
		a, b := impl.Frac{N: impl.Of(c.n), D: impl.Of(c.d)}, impl.Frac{N: impl.Of(c.m), D: impl.Of(c.e)}
		if sum, product := impl.FracText(impl.AddFrac(a, b)), impl.FracText(impl.MulFrac(a, b)); sum != c.sum || product != c.product {
			t.Error(c, sum, product)
		}
	}
}

func TestSumsAtMaxLimbs(t *testing.T) {
	one := impl.Of(1)
	bits := 32 * impl.MaxLimbs
	top := full(impl.MaxLimbs, math.MaxUint32)
	whole := func(n impl.Num) impl.Frac { return impl.Frac{N: n, D: one} }
	through := func(d impl.Num) impl.Frac { return impl.Frac{N: one, D: d} }
	half := powerOf(bits / 2)
	odd := impl.Add(powerOf(bits/2-1), one)
	for _, c := range []struct {
		what string
		a, b impl.Frac
		ok   bool
	}{
		{"N has just MaxLimbs", whole(impl.Sub(top, one)), whole(one), true},
		{"N has one more", whole(top), whole(one), false},
		{"N has one more, below 0", whole(impl.Neg(top)), whole(impl.Of(-1)), false},
		{"N stays below 0", whole(impl.Neg(top)), whole(one), true},
		{"D has just MaxLimbs", through(half), through(odd), true},
		{"D has one more", through(half), through(impl.Add(half, one)), false},
		{"N alone has one more", impl.Frac{N: top, D: impl.Of(2)}, whole(powerOf(bits - 1)), false},
		{"N passes on the way", impl.Frac{N: top, D: impl.Of(2)}, impl.Frac{N: one, D: impl.Of(2)}, true},
		{"N passes on the way, and half of it does not", impl.Frac{N: top, D: impl.Of(2)}, impl.Frac{N: top, D: impl.Of(2)}, true},
		{"D passes on the way", through(powerOf(bits - 1)), through(powerOf(bits - 1)), true},
		{"D passes on the way to 1", impl.Frac{N: impl.Sub(top, one), D: top}, impl.Frac{N: one, D: top}, true},
		{"all goes away", impl.Frac{N: top, D: powerOf(bits - 1)}, impl.Frac{N: impl.Neg(top), D: powerOf(bits - 1)}, true},
		{"0 and a great one, not in lowest terms", impl.Frac{D: top}, impl.Frac{N: top, D: top}, true},
		{"0 and a great one, in lowest terms", whole(impl.Num{}), impl.Frac{N: powerOf(bits - 1), D: top}, true},
	} {
		want := new(big.Rat).Add(ratOf(c.a), ratOf(c.b))
		if fits(want) != c.ok {
			t.Error("the test itself is wrong:", c.what)
		}
		if !c.ok {
			want.SetInt64(0)
		}
		checkFrac(t, c.what, impl.AddFrac(c.a, c.b), want)
		checkFrac(t, c.what+", turned", impl.AddFrac(c.b, c.a), want)
	}
}

func TestProductsAtMaxLimbs(t *testing.T) {
	one := impl.Of(1)
	bits := 32 * impl.MaxLimbs
	top := full(impl.MaxLimbs, math.MaxUint32)
	half, almost := powerOf(bits/2), powerOf(bits/2-1)
	for _, c := range []struct {
		what string
		a, b impl.Frac
		ok   bool
	}{
		{"N has just MaxLimbs", impl.Frac{N: half, D: one}, impl.Frac{N: almost, D: one}, true},
		{"N has one more", impl.Frac{N: half, D: one}, impl.Frac{N: half, D: one}, false},
		{"N has one more, below 0", impl.Frac{N: impl.Neg(half), D: one}, impl.Frac{N: half, D: one}, false},
		{"D has just MaxLimbs", impl.Frac{N: one, D: half}, impl.Frac{N: one, D: almost}, true},
		{"D has one more", impl.Frac{N: one, D: half}, impl.Frac{N: one, D: half}, false},
		{"N has one more, D has not", impl.Frac{N: powerOf(bits - 1), D: one}, impl.Frac{N: impl.Of(4), D: impl.Of(7)}, false},
		{"D has one more, N has not", impl.Frac{N: impl.Of(7), D: powerOf(bits - 1)}, impl.Frac{N: one, D: impl.Of(4)}, false},
		{"N comes down, but not by enough", impl.Frac{N: top, D: impl.Of(2)}, impl.Frac{N: impl.Of(6), D: one}, false},
		{"N passes on the way, and comes back", impl.Frac{N: powerOf(bits - 1), D: impl.Of(3)}, impl.Frac{N: impl.Of(3), D: impl.Of(4)}, true},
		{"both pass on the way to 1", impl.Frac{N: top, D: powerOf(bits - 1)}, impl.Frac{N: powerOf(bits - 1), D: top}, true},
		{"both pass on the way to -1", impl.Frac{N: impl.Neg(top), D: powerOf(bits - 1)}, impl.Frac{N: powerOf(bits - 1), D: top}, true},
		{"0 times a great one", impl.Frac{D: top}, impl.Frac{N: top, D: top}, true},
		{"1 times a great one", impl.Frac{N: top, D: top}, impl.Frac{N: powerOf(bits - 1), D: top}, true},
	} {
		want := new(big.Rat).Mul(ratOf(c.a), ratOf(c.b))
		if fits(want) != c.ok {
			t.Error("the test itself is wrong:", c.what)
		}
		if !c.ok {
			want.SetInt64(0)
		}
		checkFrac(t, c.what, impl.MulFrac(c.a, c.b), want)
		checkFrac(t, c.what+", turned", impl.MulFrac(c.b, c.a), want)
	}
}

func TestFracText(t *testing.T) {
	for _, c := range []struct {
		n, d int
		text string
	}{
		{0, 1, "0"}, {0, 8, "0"}, {5, 1, "5"}, {-5, 1, "-5"}, {8, 4, "2"}, {-8, 4, "-2"}, {4, 6, "2/3"}, {-4, 6, "-2/3"}, {7, 7, "1"},
		{1, 10, "1/10"}, {11, 10, "11/10"}, {-1, math.MaxInt, "-1/9223372036854775807"},
	} {
		if text := impl.FracText(impl.Frac{N: impl.Of(c.n), D: impl.Of(c.d)}); text != c.text {
			t.Error(c, text)
		}
	}
	d := &dice{27}
	for range rounds {
		a := d.frac(impl.MaxLimbs)
		if text, want := impl.FracText(a), ratOf(a).RatString(); text != want {
			t.Error(text, want)
		}
	}
}

// checkFloor: the answer is not above a, and one more is.
func checkFloor(t *testing.T, a impl.Frac) {
	t.Helper()
	got := impl.FloorFrac(a)
	checkNum(t, "FloorFrac", got, new(big.Int).Div(bigOf(a.N), bigOf(a.D)))
	whole := new(big.Rat).SetInt(bigOf(got))
	if whole.Cmp(ratOf(a)) > 0 || whole.Add(whole, big.NewRat(1, 1)).Cmp(ratOf(a)) <= 0 {
		t.Error("not the greatest that is not above:", a, got)
	}
}

func TestFloorFrac(t *testing.T) {
	for _, c := range [][3]int{{7, 2, 3}, {-7, 2, -4}, {6, 2, 3}, {-6, 2, -3}, {1, 5, 0}, {-1, 5, -1}, {0, 5, 0}, {5, 5, 1}, {-5, 5, -1}, {-6, 5, -2},
		{4, 5, 0}, {-4, 5, -1}, {9, 1, 9}, {-9, 1, -9}, {-6, 4, -2}, {math.MinInt, 2, math.MinInt / 2}, {math.MinInt, math.MaxInt, -2},
		{math.MinInt, 1, math.MinInt}, {math.MaxInt, 1, math.MaxInt}} {
		if got := impl.FloorFrac(impl.Frac{N: impl.Of(c[0]), D: impl.Of(c[1])}); !sameNum(got, impl.Of(c[2])) {
			t.Error(c, got)
		}
	}
	d := &dice{28}
	for range rounds {
		checkFloor(t, d.frac(impl.MaxLimbs))
		by := d.num(impl.MaxLimbs)
		if by.Neg = false; len(by.Mag) > 0 {
			checkFloor(t, impl.Frac{N: d.num(impl.MaxLimbs), D: by})
		}
	}
}

func TestFloorFracOfGreatParts(t *testing.T) {
	top := full(impl.MaxLimbs, math.MaxUint32)
	next := impl.Sub(top, impl.Of(1))
	for _, n := range []impl.Num{top, next, impl.Neg(top), impl.Neg(next), {}, impl.Of(1), impl.Of(-1)} {
		for _, by := range []impl.Num{top, next, impl.Of(1), impl.Of(2), powerOf(32 * (impl.MaxLimbs - 1)), powerOf(32*impl.MaxLimbs - 1)} {
			checkFloor(t, impl.Frac{N: n, D: by})
		}
	}
	if got := impl.FloorFrac(impl.Frac{N: impl.Neg(top), D: impl.Of(1)}); !sameNum(got, impl.Neg(top)) {
		t.Error("a whole number is not its own floor:", got)
	}
	if got := impl.FloorFrac(impl.Frac{N: impl.Neg(top), D: next}); !sameNum(got, impl.Of(-2)) {
		t.Error("below 0:", got)
	}
}

func TestWrongFracsAreTakenAsNought(t *testing.T) {
	up, down, zero := fracOf(t, 5, 3), fracOf(t, -5, 3), fracOf(t, 0, 1)
	for why, w := range wrongFracs() {
		checkNought(t, "Lowest: "+why, impl.Lowest(w))
		checkFrac(t, "AddFrac 1: "+why, impl.AddFrac(w, up), big.NewRat(5, 3))
		checkFrac(t, "AddFrac 2: "+why, impl.AddFrac(down, w), big.NewRat(-5, 3))
		checkNought(t, "AddFrac, both: "+why, impl.AddFrac(w, w))
		checkNought(t, "MulFrac 1: "+why, impl.MulFrac(w, up))
		checkNought(t, "MulFrac 2: "+why, impl.MulFrac(up, w))
		checkNought(t, "MulFrac, both: "+why, impl.MulFrac(w, w))
		if text := impl.FracText(w); text != "0" {
			t.Error("FracText:", why, text)
		}
		if whole := impl.FloorFrac(w); !sameNum(whole, impl.Num{}) {
			t.Error("FloorFrac:", why, whole)
		}
		for _, c := range []struct {
			a, b impl.Frac
			want int
		}{{w, zero, 0}, {zero, w, 0}, {w, w, 0}, {w, up, -1}, {up, w, 1}, {w, down, 1}, {down, w, -1}} {
			if got := impl.CmpFrac(c.a, c.b); got != c.want {
				t.Error("CmpFrac:", why, c, got)
			}
		}
	}
}

// A wrong fraction beside one that is not in lowest terms: the sum is that one, in lowest terms.
func TestWrongFracBesideGreatOne(t *testing.T) {
	top := full(impl.MaxLimbs, math.MaxUint32)
	great := impl.Frac{N: impl.Sub(top, impl.Of(1)), D: top}
	for why, w := range wrongFracs() {
		checkFrac(t, why, impl.AddFrac(w, great), ratOf(great))
		checkFrac(t, why, impl.AddFrac(impl.Frac{N: impl.Of(4), D: impl.Of(6)}, w), big.NewRat(2, 3))
	}
}

// fracCalls are all that answer fractions or numbers, of two arguments; the answers are given in their parts.
func fracCalls() map[string]func(a, b impl.Frac) []impl.Num {
	parts := func(list ...impl.Frac) []impl.Num {
		var nums []impl.Num
		for _, a := range list {
			nums = append(nums, a.N, a.D)
		}
		return nums
	}
	return map[string]func(a, b impl.Frac) []impl.Num{
		"Lowest":    func(a, b impl.Frac) []impl.Num { return parts(impl.Lowest(a), impl.Lowest(b)) },
		"AddFrac":   func(a, b impl.Frac) []impl.Num { return parts(impl.AddFrac(a, b)) },
		"MulFrac":   func(a, b impl.Frac) []impl.Num { return parts(impl.MulFrac(a, b)) },
		"FloorFrac": func(a, b impl.Frac) []impl.Num { return []impl.Num{impl.FloorFrac(a), impl.FloorFrac(b)} },
		"FracOf": func(a, b impl.Frac) []impl.Num {
			x, _ := impl.FracOf(len(a.N.Mag), len(b.N.Mag))
			return parts(x)
		},
		"tells": func(a, b impl.Frac) []impl.Num {
			impl.FracOk(a)
			impl.CmpFrac(a, b)
			impl.FracText(a)
			return nil
		},
	}
}

func fracPairs() [][2]impl.Frac {
	d := &dice{29}
	one, great := impl.Of(1), full(impl.MaxLimbs, math.MaxUint32)
	list := []impl.Frac{{}, {D: one}, {N: one, D: one}, {N: impl.Of(-1), D: one}, {N: one, D: impl.Of(2)}, {N: impl.Of(6), D: impl.Of(4)},
		{N: one}, {N: one, D: impl.Of(-1)}, {N: great, D: one}, {N: one, D: great}, {N: great, D: great}, {D: great},
		{N: impl.Neg(great), D: powerOf(700)}, {N: full(impl.MaxLimbs+1, 1), D: one}, {N: one, D: full(impl.MaxLimbs+1, 1)}}
	var pairs [][2]impl.Frac
	for _, a := range list {
		for _, b := range list {
			pairs = append(pairs, [2]impl.Frac{a, b})
		}
	}
	for range 200 {
		pairs = append(pairs, [2]impl.Frac{d.frac(impl.MaxLimbs), d.frac(6)})
	}
	return pairs
}

// roomyFrac is a with parts of their own, spare room behind each, and all of both rooms.
func roomyFrac(a impl.Frac) (impl.Frac, [2][]uint32) {
	n, roomN := roomy(a.N)
	by, roomD := roomy(a.D)
	return impl.Frac{N: n, D: by}, [2][]uint32{roomN, roomD}
}

func TestFracArgumentsStayAsTheyAre(t *testing.T) {
	for what, call := range fracCalls() {
		for _, p := range fracPairs() {
			a, roomsA := roomyFrac(p[0])
			b, roomsB := roomyFrac(p[1])
			_, keptA := roomyFrac(p[0])
			_, keptB := roomyFrac(p[1])
			for _, answer := range call(a, b) {
				scribble(answer)
			}
			for i := range 2 {
				if !slices.Equal(roomsA[i], keptA[i]) || !slices.Equal(roomsB[i], keptB[i]) {
					t.Error(what, "writes into an argument, or shares its memory:", p)
				}
			}
		}
	}
}

func TestFracAnswersAreTheirOwn(t *testing.T) {
	for what, call := range inOrder(fracCalls()) {
		for _, p := range fracPairs() {
			want := call(p[0], p[1])
			for i := range want {
				a, _ := roomyFrac(p[0])
				b, _ := roomyFrac(p[1])
				answers, others := call(a, b), call(a, b)
				others = append(others, a.N, a.D, b.N, b.D)
				others = append(others, answers[:i]...)
				others = append(others, answers[i+1:]...)
				for _, other := range others {
					scribble(other)
				}
				if !sameNum(answers[i], want[i]) {
					t.Error(what, "answers with memory that is not its own:", p)
				}
			}
		}
	}
}

// N and D of one argument, and both arguments, may lie in the same memory.
func TestFracPartsInOneMemory(t *testing.T) {
	limbs := []uint32{6, 7, 8}
	a := impl.Frac{N: impl.Num{Neg: true, Mag: limbs}, D: impl.Num{Mag: limbs}}
	checkFrac(t, "Lowest", impl.Lowest(a), big.NewRat(-1, 1))
	checkFrac(t, "AddFrac", impl.AddFrac(a, a), big.NewRat(-2, 1))
	checkFrac(t, "MulFrac", impl.MulFrac(a, a), big.NewRat(1, 1))
	if impl.CmpFrac(a, a) != 0 || impl.FracText(a) != "-1" || !sameNum(impl.FloorFrac(a), impl.Of(-1)) {
		t.Error("in one memory:", a)
	}
	if !slices.Equal(limbs, []uint32{6, 7, 8}) {
		t.Error("written into:", limbs)
	}
}
