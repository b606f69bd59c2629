package tests

import (
	"math"
	"math/big"
	"testing"

	"loop.example/g00108/impl"
)

const most = impl.MaxCoord

func pt(x, y int) impl.Pt { return impl.Pt{X: x, Y: y} }

// coord is often one at which products are greatest, or signs change.
func (d *dice) coord() int {
	edges := []int{-most, 1 - most, -1, 0, 1, most - 1, most}
	if d.below(2) == 0 {
		return edges[d.below(len(edges))]
	}
	return d.below(2*most+1) - most
}

func (d *dice) pt() impl.Pt { return pt(d.coord(), d.coord()) }

// lined are points on one line, some of them the same; the last one is now and then beside it.
func (d *dice) lined() [4]impl.Pt {
	step := pt(d.below(most/3)-most/6, d.below(most/3)-most/6)
	if d.below(2) == 0 {
		step = pt(d.below(5)-2, d.below(5)-2)
	}
	from := pt(d.below(most)-most/2, d.below(most)-most/2)
	var list [4]impl.Pt
	for i := range list {
		k := d.below(7) - 3
		list[i] = pt(from.X+k*step.X, from.Y+k*step.Y)
	}
	list[3].Y += d.below(8) / 7
	return list
}

func (d *dice) four() [4]impl.Pt {
	if d.below(2) == 0 {
		return d.lined()
	}
	list := [4]impl.Pt{d.pt(), d.pt(), d.pt(), d.pt()}
	if d.below(4) == 0 {
		list[d.below(4)] = list[d.below(4)]
	}
	return list
}

// grid has all points of a small square, below 0 and above.
func grid() []impl.Pt {
	var list []impl.Pt
	for x := -2; x <= 1; x++ {
		for y := -1; y <= 1; y++ {
			list = append(list, pt(x, y))
		}
	}
	return list
}

// stretch is which part of a segment is left: from lo to hi, its first end being 0, its last 1.
type stretch struct{ lo, hi *big.Rat }

// keep leaves of it those t for which start + t step is not below 0.
func (s *stretch) keep(start, step int) {
	if step == 0 && start < 0 {
		s.hi = big.NewRat(-1, 1)
	}
	if step == 0 {
		return
	}
	root := big.NewRat(int64(-start), int64(step))
	if step > 0 && root.Cmp(s.lo) > 0 {
		s.lo = root
	}
	if step < 0 && root.Cmp(s.hi) < 0 {
		s.hi = root
	}
}

// sharedPart: what of the segment a b is on the line of c d, and as far both ways as c d is.
func sharedPart(a, b, c, d impl.Pt) stretch {
	s := stretch{lo: new(big.Rat), hi: big.NewRat(1, 1)}
	x, y := b.X-a.X, b.Y-a.Y
	s.keep(a.X-min(c.X, d.X), x)
	s.keep(max(c.X, d.X)-a.X, -x)
	s.keep(a.Y-min(c.Y, d.Y), y)
	s.keep(max(c.Y, d.Y)-a.Y, -y)
	start := (d.X-c.X)*(a.Y-c.Y) - (d.Y-c.Y)*(a.X-c.X)
	step := (d.X-c.X)*y - (d.Y-c.Y)*x
	s.keep(start, step)
	s.keep(-start, -step)
	return s
}

// between is a number of the way from one to another.
func between(from, to int, t *big.Rat) *big.Rat {
	r := big.NewRat(int64(to-from), 1)
	return r.Add(r.Mul(r, t), big.NewRat(int64(from), 1))
}

// wantCross is Cross by the library's reckoning.
func wantCross(a, b, c, d impl.Pt) (int, *big.Rat, *big.Rat) {
	s := sharedPart(a, b, c, d)
	order := s.lo.Cmp(s.hi)
	switch {
	case order > 0:
		return impl.CrossNone, new(big.Rat), new(big.Rat)
	case order < 0 && a != b:
		return impl.CrossMany, new(big.Rat), new(big.Rat)
	}
	return impl.CrossPoint, between(a.X, b.X, s.lo), between(a.Y, b.Y, s.lo)
}

// squareTo is the square of the distance from p to the point that lies at t on the way from a to b.
func squareTo(p, a, b impl.Pt, t *big.Rat) *big.Rat {
	x, y := between(a.X-p.X, b.X-p.X, t), between(a.Y-p.Y, b.Y-p.Y, t)
	return x.Add(x.Mul(x, x), y.Mul(y, y))
}

// wantGap is Gap by the library's reckoning: the point right across, or else the end that is nearer.
func wantGap(p, a, b impl.Pt) *big.Rat {
	x, y := b.X-a.X, b.Y-a.Y
	t := new(big.Rat)
	if a != b {
		t.SetFrac64(int64(x*(p.X-a.X)+y*(p.Y-a.Y)), int64(x*x+y*y))
	}
	if one := big.NewRat(1, 1); t.Cmp(one) > 0 {
		t = one
	}
	if t.Sign() < 0 {
		t = new(big.Rat)
	}
	return squareTo(p, a, b, t)
}

func wantTurn(a, b, c impl.Pt) int {
	part := func(n, m, k, l int) *big.Int { return new(big.Int).Mul(big.NewInt(int64(n-m)), big.NewInt(int64(k-l))) }
	return part(b.X, a.X, c.Y, a.Y).Cmp(part(b.Y, a.Y, c.X, a.X))
}

// swaps are the same two segments, either one first and either end first.
func swaps(f [4]impl.Pt) [][4]impl.Pt {
	var list [][4]impl.Pt
	for _, p := range [][4]int{{0, 1, 2, 3}, {1, 0, 2, 3}, {0, 1, 3, 2}, {1, 0, 3, 2}, {2, 3, 0, 1}, {3, 2, 0, 1}, {2, 3, 1, 0}, {3, 2, 1, 0}} {
		list = append(list, [4]impl.Pt{f[p[0]], f[p[1]], f[p[2]], f[p[3]]})
	}
	return list
}

// checkCross: Cross answers this, whichever segment and end is first, and Meet agrees.
func checkCross(t *testing.T, f [4]impl.Pt, kind int, x, y *big.Rat) {
	t.Helper()
	for _, s := range swaps(f) {
		got, u, v := impl.Cross(s[0], s[1], s[2], s[3])
		if got != kind {
			t.Error("Cross:", s, got, "not", kind)
		}
		checkFrac(t, "Cross, X", u, x)
		checkFrac(t, "Cross, Y", v, y)
		if impl.Meet(s[0], s[1], s[2], s[3]) != (kind != impl.CrossNone) {
			t.Error("Meet:", s, kind)
		}
		if t.Failed() {
			t.Fatal("at", s)
		}
	}
}

// checkGap: Gap answers this, whichever end is first, and OnSeg agrees.
func checkGap(t *testing.T, p, a, b impl.Pt, want *big.Rat) {
	t.Helper()
	checkFrac(t, "Gap", impl.Gap(p, a, b), want)
	checkFrac(t, "Gap, turned", impl.Gap(p, b, a), want)
	if on := want.Sign() == 0; impl.OnSeg(a, b, p) != on || impl.OnSeg(b, a, p) != on {
		t.Error("OnSeg is not", on)
	}
	if t.Failed() {
		t.Fatal("at", p, a, b)
	}
}

func ratText(t *testing.T, s string) *big.Rat {
	t.Helper()
	r, ok := new(big.Rat).SetString(s)
	if !ok {
		t.Fatal("the test itself is wrong:", s)
	}
	return r
}

func TestPtOk(t *testing.T) {
	for _, p := range []impl.Pt{{}, {X: most}, {X: -most}, {Y: most}, {Y: -most}, {X: most, Y: -most}, {X: -most, Y: most}, {X: 3, Y: -4}} {
		if !impl.PtOk(p) {
			t.Error("is a point:", p)
		}
	}
	for _, p := range wrongPts() {
		if impl.PtOk(p) {
			t.Error("is no point:", p)
		}
	}
}

func TestTurn(t *testing.T) {
	for _, c := range []struct {
		a, b, c impl.Pt
		want    int
	}{
		{pt(0, 0), pt(2, 0), pt(1, 1), 1}, {pt(0, 0), pt(2, 0), pt(1, -1), -1}, {pt(0, 0), pt(2, 0), pt(5, 0), 0}, {pt(0, 0), pt(2, 0), pt(-5, 0), 0},
		{pt(0, 0), pt(0, 2), pt(-1, 1), 1}, {pt(0, 0), pt(0, 2), pt(1, 1), -1}, {pt(3, 4), pt(1, 1), pt(1, 0), 1}, {pt(3, 4), pt(1, 1), pt(0, 1), -1},
		{pt(-3, -3), pt(-1, -2), pt(1, -1), 0}, {pt(-3, -3), pt(-1, -2), pt(1, 0), 1}, {pt(-3, -3), pt(-1, -2), pt(2, -1), -1},
		{pt(5, 6), pt(5, 6), pt(7, 9), 0}, {pt(5, 6), pt(7, 9), pt(5, 6), 0}, {pt(7, 9), pt(5, 6), pt(5, 6), 0}, {pt(5, 6), pt(5, 6), pt(5, 6), 0},
		{pt(-most, -most), pt(most, -most), pt(-most, most), 1}, {pt(-most, most), pt(most, -most), pt(most, most), 1},
		{pt(-most, -most), pt(most, most), pt(most, -most), -1}, {pt(-most, -most), pt(most, most), pt(0, 0), 0},
		{pt(-most, -most), pt(most, most), pt(most-1, most), 1}, {pt(-most, -most), pt(most, most), pt(most, most-1), -1},
		{pt(-most, -most), pt(most, most-1), pt(0, 0), 1}, {pt(-most, -most), pt(most-1, most), pt(0, 0), -1},
	} {
		if got := impl.Turn(c.a, c.b, c.c); got != c.want {
			t.Error(c, got)
		}
	}
}

func checkTurns(t *testing.T, a, b, c impl.Pt) {
	t.Helper()
	want := wantTurn(a, b, c)
	for _, f := range [][3]impl.Pt{{a, b, c}, {b, c, a}, {c, a, b}} {
		if impl.Turn(f[0], f[1], f[2]) != want {
			t.Error("Turn:", f, "is not", want)
		}
		if impl.Turn(f[1], f[0], f[2]) != -want || impl.Turn(f[0], f[2], f[1]) != -want {
			t.Error("Turn of two that change places:", f, "is not", -want)
		}
	}
}

func TestTurnsOfPointsThatChangePlaces(t *testing.T) {
	for _, a := range grid() {
		for _, b := range grid() {
			for _, c := range grid() {
				checkTurns(t, a, b, c)
			}
		}
	}
	d := &dice{31}
	for range rounds {
		f := d.four()
		checkTurns(t, f[0], f[1], f[2])
		checkTurns(t, f[1], f[2], f[3])
	}
}

func TestOnSeg(t *testing.T) {
	for _, c := range []struct {
		a, b, p impl.Pt
		want    bool
	}{
		{pt(0, 0), pt(4, 2), pt(2, 1), true}, {pt(0, 0), pt(4, 2), pt(0, 0), true}, {pt(0, 0), pt(4, 2), pt(4, 2), true},
		{pt(0, 0), pt(4, 2), pt(6, 3), false}, {pt(0, 0), pt(4, 2), pt(-2, -1), false}, {pt(0, 0), pt(4, 2), pt(2, 2), false},
		{pt(0, 0), pt(4, 2), pt(2, 0), false}, {pt(0, 0), pt(4, 2), pt(1, 1), false}, {pt(0, 0), pt(4, 2), pt(3, 1), false},
		{pt(-1, 5), pt(3, 5), pt(1, 5), true}, {pt(-1, 5), pt(3, 5), pt(4, 5), false}, {pt(-1, 5), pt(3, 5), pt(-2, 5), false}, {pt(-1, 5), pt(3, 5), pt(1, 6), false},
		{pt(5, -1), pt(5, 3), pt(5, 1), true}, {pt(5, -1), pt(5, 3), pt(5, 4), false}, {pt(5, -1), pt(5, 3), pt(5, -2), false}, {pt(5, -1), pt(5, 3), pt(6, 1), false},
		{pt(-3, 3), pt(3, -3), pt(1, -1), true}, {pt(-3, 3), pt(3, -3), pt(1, 1), false}, {pt(-3, 3), pt(3, -3), pt(4, -4), false},
		{pt(2, 3), pt(2, 3), pt(2, 3), true}, {pt(2, 3), pt(2, 3), pt(2, 4), false}, {pt(2, 3), pt(2, 3), pt(1, 3), false}, {pt(2, 3), pt(2, 3), pt(4, 6), false}, {pt(2, 3), pt(2, 3), pt(0, 0), false},
		{pt(-most, -most), pt(most, most), pt(0, 0), true}, {pt(-most, -most), pt(most, most-1), pt(0, 0), false},
		{pt(-most, -most), pt(most, most), pt(most, most), true}, {pt(-most, -most), pt(most, most), pt(most, most-1), false},
		{pt(-most, -most), pt(most-1, most-1), pt(most, most), false}, {pt(-most, most), pt(-most, most), pt(-most, most), true}, {pt(-most, most), pt(-most, most), pt(most, -most), false},
	} {
		if impl.OnSeg(c.a, c.b, c.p) != c.want || impl.OnSeg(c.b, c.a, c.p) != c.want {
			t.Error(c)
		}
	}
}

func TestMeetAndCross(t *testing.T) {
	for _, c := range []struct {
		what string
		f    [4]impl.Pt
		kind int
		x, y string
	}{
		{"inside", [4]impl.Pt{pt(0, 0), pt(4, 4), pt(0, 4), pt(4, 0)}, impl.CrossPoint, "2", "2"},
		{"inside, at fractions", [4]impl.Pt{pt(0, 0), pt(3, 1), pt(1, 2), pt(2, -1)}, impl.CrossPoint, "3/2", "1/2"},
		{"inside, below 0", [4]impl.Pt{pt(-5, -1), pt(0, -3), pt(-4, -3), pt(-1, -1)}, impl.CrossPoint, "-5/2", "-2"},
		{"inside, fractions below 0", [4]impl.Pt{pt(-3, -3), pt(-1, -2), pt(-1, -3), pt(-3, -2)}, impl.CrossPoint, "-2", "-5/2"},
		{"inside, either side of 0", [4]impl.Pt{pt(-1, 1), pt(2, -3), pt(-1, -1), pt(1, 0)}, impl.CrossPoint, "1/11", "-5/11"},
		{"one inside the other, at its end", [4]impl.Pt{pt(0, 0), pt(3, 1), pt(1, 1), pt(1, 0)}, impl.CrossPoint, "1", "1/3"},
		{"at one end, the other inside", [4]impl.Pt{pt(0, 0), pt(4, 2), pt(2, 1), pt(3, 7)}, impl.CrossPoint, "2", "1"},
		{"at one end, the other inside, below 0", [4]impl.Pt{pt(0, 0), pt(-4, -2), pt(-2, -1), pt(3, 7)}, impl.CrossPoint, "-2", "-1"},
		{"at two ends", [4]impl.Pt{pt(1, 1), pt(4, 2), pt(4, 2), pt(5, 9)}, impl.CrossPoint, "4", "2"},
		{"at two ends, at nought", [4]impl.Pt{pt(1, 1), pt(0, 0), pt(0, 0), pt(5, 9)}, impl.CrossPoint, "0", "0"},
		{"one line, apart", [4]impl.Pt{pt(0, 0), pt(2, 1), pt(4, 2), pt(6, 3)}, impl.CrossNone, "0", "0"},
		{"one flat line, apart", [4]impl.Pt{pt(0, 7), pt(2, 7), pt(3, 7), pt(6, 7)}, impl.CrossNone, "0", "0"},
		{"one upright line, apart", [4]impl.Pt{pt(7, 0), pt(7, 2), pt(7, 3), pt(7, 6)}, impl.CrossNone, "0", "0"},
		{"one line, touching", [4]impl.Pt{pt(0, 0), pt(2, 1), pt(2, 1), pt(6, 3)}, impl.CrossPoint, "2", "1"},
		{"one flat line, touching", [4]impl.Pt{pt(0, 7), pt(-2, 7), pt(-2, 7), pt(-6, 7)}, impl.CrossPoint, "-2", "7"},
		{"one upright line, touching", [4]impl.Pt{pt(7, 0), pt(7, 2), pt(7, 2), pt(7, 6)}, impl.CrossPoint, "7", "2"},
		{"one line, over", [4]impl.Pt{pt(0, 0), pt(4, 2), pt(2, 1), pt(6, 3)}, impl.CrossMany, "0", "0"},
		{"one flat line, over", [4]impl.Pt{pt(0, 7), pt(2, 7), pt(1, 7), pt(6, 7)}, impl.CrossMany, "0", "0"},
		{"one upright line, over", [4]impl.Pt{pt(7, 0), pt(7, 2), pt(7, 1), pt(7, 6)}, impl.CrossMany, "0", "0"},
		{"one in the other", [4]impl.Pt{pt(0, 0), pt(6, 3), pt(2, 1), pt(4, 2)}, impl.CrossMany, "0", "0"},
		{"one in the other, from its end", [4]impl.Pt{pt(0, 0), pt(6, 3), pt(0, 0), pt(4, 2)}, impl.CrossMany, "0", "0"},
		{"the same", [4]impl.Pt{pt(1, 2), pt(6, 3), pt(1, 2), pt(6, 3)}, impl.CrossMany, "0", "0"},
		{"parallel", [4]impl.Pt{pt(0, 0), pt(4, 2), pt(0, 1), pt(4, 3)}, impl.CrossNone, "0", "0"},
		{"parallel, near", [4]impl.Pt{pt(0, 0), pt(6, 4), pt(2, 1), pt(5, 3)}, impl.CrossNone, "0", "0"},
		{"lines cross beyond one's end", [4]impl.Pt{pt(0, 0), pt(2, 0), pt(3, -1), pt(3, 1)}, impl.CrossNone, "0", "0"},
		{"lines cross in the box of both", [4]impl.Pt{pt(0, 0), pt(4, 4), pt(3, 2), pt(4, 0)}, impl.CrossNone, "0", "0"},
		{"lines cross beyond both", [4]impl.Pt{pt(0, 0), pt(2, 2), pt(9, 0), pt(6, 2)}, impl.CrossNone, "0", "0"},
	} {
		t.Run(c.what, func(t *testing.T) { checkCross(t, c.f, c.kind, ratText(t, c.x), ratText(t, c.y)) })
	}
}

func TestSegmentsThatAreOnePoint(t *testing.T) {
	p, q := pt(2, -3), pt(2, 4)
	for _, c := range []struct {
		what string
		f    [4]impl.Pt
		kind int
		x, y string
	}{
		{"on the other, inside", [4]impl.Pt{p, p, pt(0, -2), pt(4, -4)}, impl.CrossPoint, "2", "-3"},
		{"at the other's end", [4]impl.Pt{p, p, p, pt(4, -4)}, impl.CrossPoint, "2", "-3"},
		{"on the other's line, beyond", [4]impl.Pt{p, p, pt(4, -4), pt(6, -5)}, impl.CrossNone, "0", "0"},
		{"beside the other", [4]impl.Pt{p, p, pt(0, -2), pt(4, -3)}, impl.CrossNone, "0", "0"},
		{"on a flat one", [4]impl.Pt{p, p, pt(0, -3), pt(4, -3)}, impl.CrossPoint, "2", "-3"},
		{"on an upright one", [4]impl.Pt{p, p, pt(2, -5), q}, impl.CrossPoint, "2", "-3"},
		{"both the same", [4]impl.Pt{p, p, p, p}, impl.CrossPoint, "2", "-3"},
		{"both the same, at nought", [4]impl.Pt{}, impl.CrossPoint, "0", "0"},
		{"both, above each other", [4]impl.Pt{p, p, q, q}, impl.CrossNone, "0", "0"},
		{"both, beside each other", [4]impl.Pt{p, p, pt(3, -3), pt(3, -3)}, impl.CrossNone, "0", "0"},
		{"both, apart", [4]impl.Pt{p, p, pt(-2, 3), pt(-2, 3)}, impl.CrossNone, "0", "0"},
		{"both, at a corner", [4]impl.Pt{pt(most, -most), pt(most, -most), pt(most, -most), pt(most, -most)}, impl.CrossPoint, "10000000", "-10000000"},
		{"at a corner, and all across", [4]impl.Pt{pt(most, -most), pt(most, -most), pt(most, -most), pt(-most, most)}, impl.CrossPoint, "10000000", "-10000000"},
	} {
		t.Run(c.what, func(t *testing.T) { checkCross(t, c.f, c.kind, ratText(t, c.x), ratText(t, c.y)) })
	}
	for _, c := range []struct {
		to, p impl.Pt
		want  string
	}{{p, p, "0"}, {p, q, "49"}, {p, pt(5, 1), "25"}, {p, pt(-1, -3), "9"}, {pt(0, 0), pt(0, 0), "0"}, {pt(-most, -most), pt(most, most), "800000000000000"}} {
		checkGap(t, c.p, c.to, c.to, ratText(t, c.want))
	}
}

func TestCrossAtMaxCoord(t *testing.T) {
	for _, c := range []struct {
		f    [4]impl.Pt
		kind int
		x, y string
	}{
		{[4]impl.Pt{pt(-most, -most), pt(most, most), pt(-most, most), pt(most, -most)}, impl.CrossPoint, "0", "0"},
		{[4]impl.Pt{pt(-most, -most), pt(most, most-1), pt(-most, most), pt(most-1, -most)}, impl.CrossPoint, "-10000000/799999960000001", "-399999990000000/799999960000001"},
		{[4]impl.Pt{pt(-most, -most), pt(most, most-1), pt(-most, 1-most), pt(most, most-2)}, impl.CrossPoint, "0", "-1/2"},
		{[4]impl.Pt{pt(-most, -most), pt(most, most-1), pt(1-most, 1-most), pt(most-1, most-2)}, impl.CrossPoint, "0", "-1/2"},
		{[4]impl.Pt{pt(-most, 1-most), pt(most, most), pt(1-most, -most), pt(most, most-1)}, impl.CrossNone, "0", "0"},
		{[4]impl.Pt{pt(-most, -most), pt(most, most), pt(-most, 1-most), pt(most-1, most)}, impl.CrossNone, "0", "0"},
		{[4]impl.Pt{pt(-most, -most), pt(most, most), pt(most-1, most-1), pt(most, most)}, impl.CrossMany, "0", "0"},
		{[4]impl.Pt{pt(-most, -most), pt(most-1, most-1), pt(most-1, most-1), pt(most, most)}, impl.CrossPoint, "9999999", "9999999"},
		{[4]impl.Pt{pt(-most, -most), pt(most, -most), pt(most, -most), pt(most, most)}, impl.CrossPoint, "10000000", "-10000000"},
		{[4]impl.Pt{pt(-most, most), pt(-most, -most), pt(-most, -most), pt(-most, most)}, impl.CrossMany, "0", "0"},
	} {
		checkCross(t, c.f, c.kind, ratText(t, c.x), ratText(t, c.y))
	}
}

func TestGap(t *testing.T) {
	for _, c := range []struct {
		p, a, b impl.Pt
		want    string
	}{
		{pt(1, 2), pt(0, 0), pt(4, 0), "4"}, {pt(1, -2), pt(0, 0), pt(4, 0), "4"}, {pt(-3, 4), pt(0, 0), pt(4, 0), "25"}, {pt(7, 4), pt(0, 0), pt(4, 0), "25"},
		{pt(0, 2), pt(0, 0), pt(4, 0), "4"}, {pt(4, 2), pt(0, 0), pt(4, 0), "4"}, {pt(-1, 2), pt(0, 0), pt(4, 0), "5"}, {pt(5, 2), pt(0, 0), pt(4, 0), "5"},
		{pt(3, 1), pt(0, 0), pt(0, 4), "9"}, {pt(3, -1), pt(0, 0), pt(0, 4), "10"}, {pt(3, 5), pt(0, 0), pt(0, 4), "10"},
		{pt(0, 1), pt(0, 0), pt(1, 1), "1/2"}, {pt(1, 1), pt(0, 0), pt(4, 2), "1/5"}, {pt(2, 0), pt(0, 0), pt(4, 2), "4/5"}, {pt(-2, -2), pt(-4, -2), pt(-1, -3), "2/5"},
		{pt(0, 3), pt(0, 0), pt(3, 1), "81/10"}, {pt(2, 4), pt(0, 0), pt(6, 3), "36/5"}, {pt(5, 5), pt(0, 0), pt(2, 2), "18"}, {pt(-5, 5), pt(0, 0), pt(2, 2), "50"},
		{pt(6, 3), pt(0, 0), pt(4, 2), "5"}, {pt(2, 1), pt(0, 0), pt(4, 2), "0"}, {pt(0, 0), pt(0, 0), pt(4, 2), "0"}, {pt(4, 2), pt(0, 0), pt(4, 2), "0"},
		{pt(most, -most), pt(-most, -most), pt(most, most), "200000000000000"},
		{pt(most, -most), pt(-most, -most), pt(most-1, most), "160000000000000000000000000000/799999960000001"},
		{pt(-most, most), pt(-most, -most), pt(most, most-1), "160000000000000000000000000000/799999960000001"},
		{pt(0, 0), pt(-most, 1-most), pt(most, most), "100000000000000/799999960000001"},
		{pt(1-most, -most), pt(-most, -most), pt(most, most), "1/2"},
		{pt(most, most), pt(-most, -most), pt(1-most, -most), "799999960000001"},
		{pt(-most, most), pt(most-1, -most), pt(-most, 1-most), "399999960000001"},
	} {
		checkGap(t, c.p, c.a, c.b, ratText(t, c.want))
	}
}

// All segments of a small square: each way two of them can lie is among them.
func TestAllSmallSegments(t *testing.T) {
	for _, a := range grid() {
		for _, b := range grid() {
			for _, c := range grid() {
				checkGap(t, c, a, b, wantGap(c, a, b))
				for _, d := range grid() {
					kind, x, y := wantCross(a, b, c, d)
					got, u, v := impl.Cross(a, b, c, d)
					if got != kind || impl.FracText(u) != x.RatString() || impl.FracText(v) != y.RatString() {
						t.Fatal("Cross:", a, b, c, d, got, u, v)
					}
					if impl.Meet(a, b, c, d) != (kind != impl.CrossNone) {
						t.Fatal("Meet:", a, b, c, d)
					}
				}
			}
		}
	}
}

func TestGreatSegments(t *testing.T) {
	d := &dice{32}
	var seen [3]int
	for range rounds {
		f := d.four()
		kind, x, y := wantCross(f[0], f[1], f[2], f[3])
		checkCross(t, f, kind, x, y)
		checkGap(t, f[2], f[0], f[1], wantGap(f[2], f[0], f[1]))
		checkGap(t, f[0], f[2], f[3], wantGap(f[0], f[2], f[3]))
		seen[kind]++
	}
	for kind, n := range seen {
		if n < rounds/20 {
			t.Error("the test itself is wrong: too few of kind", kind, n)
		}
	}
}

// checkAgree: what one call tells of p and the segments is what the others tell.
func checkAgree(t *testing.T, f [4]impl.Pt) {
	t.Helper()
	a, b, c, d := f[0], f[1], f[2], f[3]
	on := impl.OnSeg(a, b, c)
	kind, x, y := impl.Cross(a, b, c, c)
	if impl.Meet(a, b, c, c) != on || (kind == impl.CrossPoint) != on || kind == impl.CrossMany || (impl.Sign(impl.Gap(c, a, b).N) == 0) != on {
		t.Error("a point and a segment:", f, on, kind)
	}
	if on && (impl.Turn(a, b, c) != 0 || !sameNum(x.N, impl.Of(c.X)) || !sameNum(y.N, impl.Of(c.Y))) {
		t.Error("a point that is on it:", f, x, y)
	}
	kind, x, y = impl.Cross(a, b, c, d)
	if kind != impl.CrossNone && (impl.Turn(a, b, c)*impl.Turn(a, b, d) > 0 || impl.Turn(c, d, a)*impl.Turn(c, d, b) > 0) {
		t.Error("they meet, and one lies on one side of the other:", f)
	}
	if impl.Turn(a, b, c)*impl.Turn(a, b, d) < 0 && impl.Turn(c, d, a)*impl.Turn(c, d, b) < 0 && kind != impl.CrossPoint {
		t.Error("each has its ends on both sides of the other:", f, kind)
	}
	if kind == impl.CrossPoint && !(liesOn(x, y, a, b) && liesOn(x, y, c, d)) {
		t.Error("the crossing lies not on both:", f, x, y)
	}
}

// liesOn: whether the point of two fractions lies on the segment.
func liesOn(x, y impl.Frac, a, b impl.Pt) bool {
	u, v := ratOf(x), ratOf(y)
	less := func(r *big.Rat, n int) *big.Rat { return new(big.Rat).Sub(r, big.NewRat(int64(n), 1)) }
	left, right := less(v, a.Y), less(u, a.X)
	left.Mul(left, big.NewRat(int64(b.X-a.X), 1))
	right.Mul(right, big.NewRat(int64(b.Y-a.Y), 1))
	return left.Cmp(right) == 0 &&
		less(u, min(a.X, b.X)).Sign() >= 0 && less(u, max(a.X, b.X)).Sign() <= 0 &&
		less(v, min(a.Y, b.Y)).Sign() >= 0 && less(v, max(a.Y, b.Y)).Sign() <= 0
}

func TestCallsAgree(t *testing.T) {
	d := &dice{33}
	for range rounds {
		f := d.four()
		for _, s := range swaps(f) {
			checkAgree(t, s)
		}
	}
}

// No point of a segment is nearer than Gap tells.
func TestNoPointIsNearerThanGap(t *testing.T) {
	d := &dice{34}
	for range rounds / 4 {
		f := d.four()
		gap := ratOf(impl.Gap(f[2], f[0], f[1]))
		for i := range 9 {
			if squareTo(f[2], f[0], f[1], big.NewRat(int64(i), 8)).Cmp(gap) < 0 {
				t.Error("is nearer:", f, i)
			}
		}
	}
}

// wrongPts: each is beyond MaxCoord in X, in Y or in both.
func wrongPts() []impl.Pt {
	var list []impl.Pt
	for _, n := range []int{most + 1, -most - 1, math.MaxInt, math.MinInt, math.MinInt + 1, 1 << 32, -1 << 32, 1 << 62} {
		list = append(list, pt(n, 0), pt(0, n), pt(n, 7), pt(-7, n), pt(n, most), pt(-most, n), pt(n, n), pt(n, most+1))
	}
	return list
}

// pointCalls are all calls, each with how many points it takes, and what it answers as a text.
func pointCalls() map[string]struct {
	takes int
	tell  func(f [4]impl.Pt) string
} {
	truth := map[bool]string{true: "yes", false: "no"}
	type call = struct {
		takes int
		tell  func(f [4]impl.Pt) string
	}
	return map[string]call{
		"Turn":  {3, func(f [4]impl.Pt) string { return impl.NumText(impl.Of(impl.Turn(f[0], f[1], f[2]))) }},
		"OnSeg": {3, func(f [4]impl.Pt) string { return truth[impl.OnSeg(f[0], f[1], f[2])] }},
		"Gap":   {3, func(f [4]impl.Pt) string { return impl.FracText(impl.Gap(f[0], f[1], f[2])) }},
		"Meet":  {4, func(f [4]impl.Pt) string { return truth[impl.Meet(f[0], f[1], f[2], f[3])] }},
		"Cross": {4, func(f [4]impl.Pt) string {
			kind, x, y := impl.Cross(f[0], f[1], f[2], f[3])
			return impl.NumText(impl.Of(kind)) + " " + impl.FracText(x) + " " + impl.FracText(y)
		}},
	}
}

// besides are points to stand beside a wrong one: 0, 0 in its place is now on them, now not.
func besides() [][4]impl.Pt {
	d := &dice{35}
	list := [][4]impl.Pt{
		{pt(-1, -1), pt(1, 1), pt(-1, 1), pt(1, -1)}, {pt(2, 1), pt(-2, -1), pt(4, 2), pt(-4, -2)}, {pt(3, 0), pt(5, 0), pt(0, 3), pt(0, 5)},
		{pt(-most, -most), pt(most, most), pt(-most, most), pt(most, -most)}, {pt(1, 2), pt(1, 2), pt(1, 2), pt(1, 2)}, {},
		{pt(most, most), pt(most, most), pt(most, most), pt(most, most)}, {pt(5, 7), pt(6, 9), pt(8, 7), pt(-3, 2)},
	}
	for range 20 {
		list = append(list, d.four())
	}
	return list
}

func TestWrongPointsAreTakenAsNought(t *testing.T) {
	for what, call := range pointCalls() {
		for _, f := range besides() {
			// Each set of places: one wrong point, some, all.
			for set := 1; set < 1<<call.takes; set++ {
				right := f
				for i := range call.takes {
					if set>>i&1 == 1 {
						right[i] = impl.Pt{}
					}
				}
				want := call.tell(right)
				for _, w := range wrongPts() {
					wrong := f
					for i := range call.takes {
						if set>>i&1 == 1 {
							wrong[i] = w
						}
					}
					if got := call.tell(wrong); got != want {
						t.Error(what, wrong, got, "not", want)
					}
				}
			}
		}
	}
}

// What is taken as 0, 0 is told in full here, so that a change of both sides is seen.
func TestWrongPointsByExample(t *testing.T) {
	for _, w := range wrongPts() {
		if impl.Turn(w, pt(2, 0), pt(1, 1)) != 1 || impl.Turn(pt(2, 0), w, pt(1, 1)) != -1 || impl.Turn(pt(2, 0), pt(1, 1), w) != 1 || impl.Turn(w, w, w) != 0 {
			t.Error("Turn:", w)
		}
		if !impl.OnSeg(w, pt(4, 2), pt(2, 1)) || impl.OnSeg(pt(4, 2), w, pt(6, 3)) || !impl.OnSeg(pt(-1, -1), pt(2, 2), w) || impl.OnSeg(pt(1, 1), pt(2, 2), w) || !impl.OnSeg(w, w, w) {
			t.Error("OnSeg:", w)
		}
		if impl.Meet(pt(1, 1), pt(2, 2), w, w) || !impl.Meet(w, pt(4, 4), pt(0, 4), pt(4, 0)) || !impl.Meet(w, w, w, w) {
			t.Error("Meet:", w)
		}
		if kind, x, y := impl.Cross(pt(-1, -1), w, pt(1, 2), w); kind != impl.CrossPoint || impl.FracText(x) != "0" || impl.FracText(y) != "0" {
			t.Error("Cross:", w, kind, x, y)
		}
		if kind, x, y := impl.Cross(w, pt(3, 1), pt(1, 1), pt(1, 0)); kind != impl.CrossPoint || impl.FracText(x) != "1" || impl.FracText(y) != "1/3" {
			t.Error("Cross:", w, kind, x, y)
		}
		for _, c := range []struct {
			p, a, b impl.Pt
			want    string
		}{{w, pt(0, 2), pt(2, 0), "2"}, {pt(1, 1), w, pt(4, 2), "1/5"}, {pt(1, 1), pt(4, 2), w, "1/5"}, {pt(3, 4), w, w, "25"}, {w, w, w, "0"}} {
			checkFrac(t, "Gap", impl.Gap(c.p, c.a, c.b), ratText(t, c.want))
		}
	}
}

// pointAnswers are the parts of all fractions that the calls answer of these points.
func pointAnswers(f [4]impl.Pt) [][]impl.Num {
	_, x, y := impl.Cross(f[0], f[1], f[2], f[3])
	gap := impl.Gap(f[0], f[1], f[2])
	return [][]impl.Num{{x.N, x.D, y.N, y.D}, {gap.N, gap.D}}
}

func TestPointAnswersAreTheirOwn(t *testing.T) {
	d := &dice{36}
	list := [][4]impl.Pt{
		{pt(0, 0), pt(4, 4), pt(0, 4), pt(4, 0)}, {pt(0, 0), pt(3, 1), pt(1, 1), pt(1, 0)}, {pt(5, 5), pt(9, 9), pt(5, 5), pt(9, 0)}, {},
		{pt(1, 1), pt(1, 1), pt(1, 1), pt(1, 1)}, {pt(0, 0), pt(2, 0), pt(1, 0), pt(3, 0)}, {pt(0, 0), pt(2, 0), pt(0, 1), pt(2, 1)},
		{pt(-1, -1), pt(0, 0), pt(-1, 0), pt(0, -1)}, {pt(most+1, 0), pt(0, most+1), pt(most+1, 0), pt(math.MinInt, 0)},
	}
	for range 200 {
		list = append(list, d.four())
	}
	for _, f := range list {
		want := pointAnswers(f)
		for which := range want {
			for i := range want[which] {
				answers, others := pointAnswers(f), pointAnswers(f)
				for k, other := range answers[which] {
					if k != i {
						scribble(other)
					}
				}
				for _, other := range append(others[0], others[1]...) {
					scribble(other)
				}
				if !sameNum(answers[which][i], want[which][i]) {
					t.Error("answers with memory that is not its own:", f, which, i)
				}
			}
		}
	}
}
