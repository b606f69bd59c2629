package tests

import (
	"fmt"
	"math"
	"math/big"
	"slices"
	"strings"
	"testing"

	"loop.example/g00108/impl"
)

func point(x, y int) impl.Shape { return shape(impl.ShapePoint, row(x, y)) }

func points(l ...int) impl.Shape { return shape(impl.ShapePoints, row(l...)) }

func line(l ...int) impl.Shape { return shape(impl.ShapeLine, row(l...)) }

func lines(rows ...[]impl.Pt) impl.Shape { return shape(impl.ShapeLines, rows...) }

func good(s impl.Shape) bool {
	code, _, _ := impl.Check(s)
	return code == impl.ShapeGood
}

// spot is the place x/k, y/k by the library's reckoning; k is above 0.
type spot struct{ x, y, k *big.Int }

func spotAt(x, y *big.Rat) spot {
	return spot{new(big.Int).Mul(x.Num(), y.Denom()), new(big.Int).Mul(y.Num(), x.Denom()), new(big.Int).Mul(x.Denom(), y.Denom())}
}

func spotOf(p impl.Pt) spot {
	return spotAt(big.NewRat(int64(p.X), 1), big.NewRat(int64(p.Y), 1))
}

// seen is how far q lies from the spot, k times.
func (s spot) seen(q impl.Pt) (*big.Int, *big.Int) {
	x, y := big.NewInt(int64(q.X)), big.NewInt(int64(q.Y))
	return x.Sub(x.Mul(x, s.k), s.x), y.Sub(y.Mul(y, s.k), s.y)
}

// side is the sign of the turn from the spot to a to b.
func (s spot) side(a, b impl.Pt) int {
	ax, ay := s.seen(a)
	bx, by := s.seen(b)
	return ax.Mul(ax, by).Cmp(ay.Mul(ay, bx))
}

func (s spot) on(a, b impl.Pt) bool {
	ax, ay := s.seen(a)
	bx, by := s.seen(b)
	return ax.Sign()*bx.Sign() <= 0 && ay.Sign()*by.Sign() <= 0 && s.side(a, b) == 0
}

// in tells how often the ring goes around the spot, by the quarters in which its corners are seen.
func (s spot) in(ring []impl.Pt) bool {
	quarter := func(q impl.Pt) int {
		switch x, y := s.seen(q); {
		case x.Sign() > 0 && y.Sign() >= 0:
			return 0
		case x.Sign() <= 0 && y.Sign() > 0:
			return 1
		case x.Sign() < 0:
			return 2
		}
		return 3
	}
	around := 0
	for i, a := range ring {
		b := ring[(i+1)%len(ring)]
		switch (quarter(b) - quarter(a) + 4) % 4 {
		case 1:
			around++
		case 2:
			around += 2 * s.side(a, b)
		case 3:
			around--
		}
	}
	return around != 0
}

// wantLocate is Locate, of a good area, by the library's reckoning.
func wantLocate(a impl.Shape, s spot) int {
	for _, edge := range wantSegments(a) {
		if s.on(edge[0], edge[1]) {
			return impl.LocOn
		}
	}
	if !s.in(a.Rings[0]) || slices.ContainsFunc(a.Rings[1:], s.in) {
		return impl.LocOut
	}
	return impl.LocIn
}

func wantHas(s impl.Shape, p impl.Pt) bool {
	at := spotOf(p)
	if s.Kind == impl.ShapeArea {
		return wantLocate(s, at) != impl.LocOut
	}
	return slices.ContainsFunc(wantSegments(s), func(seg [2]impl.Pt) bool { return at.on(seg[0], seg[1]) })
}

// hasCornerOf: the least point, by X and then Y, that two shapes have together is a corner of one of them, or segments of both meet there.
func hasCornerOf(s, other impl.Shape) bool {
	return slices.ContainsFunc(slices.Concat(other.Rings...), func(p impl.Pt) bool { return wantHas(s, p) })
}

func (w wantMeet) shapes(a, b impl.Shape) bool {
	for _, one := range wantSegments(a) {
		for _, other := range wantSegments(b) {
			if w.kind(one[0], one[1], other[0], other[1]) != impl.CrossNone {
				return true
			}
		}
	}
	return hasCornerOf(a, b) || hasCornerOf(b, a)
}

// clipped: which part of the segment is in the box.
func clipped(a, b impl.Pt, in impl.Box) stretch {
	s := stretch{lo: new(big.Rat), hi: big.NewRat(1, 1)}
	x, y := b.X-a.X, b.Y-a.Y
	s.keep(a.X-in.Lo.X, x)
	s.keep(in.Hi.X-a.X, -x)
	s.keep(a.Y-in.Lo.Y, y)
	s.keep(in.Hi.Y-a.Y, -y)
	return s
}

func wantMeetsBox(s impl.Shape, b impl.Box) bool {
	for _, seg := range wantSegments(s) {
		if part := clipped(seg[0], seg[1], b); part.lo.Cmp(part.hi) <= 0 {
			return true
		}
	}
	return s.Kind == impl.ShapeArea && wantLocate(s, spotOf(b.Lo)) != impl.LocOut
}

func wantWithin(s impl.Shape, b impl.Box) bool {
	for _, p := range slices.Concat(s.Rings...) {
		if p.X < b.Lo.X || p.X > b.Hi.X || p.Y < b.Lo.Y || p.Y > b.Hi.Y {
			return false
		}
	}
	return true
}

// wantCovers cuts each segment where edges begin or end to be on it: between two cuts all of it lies alike, so its middle tells.
func wantCovers(a, s impl.Shape) bool {
	for _, seg := range wantSegments(s) {
		cuts := []*big.Rat{new(big.Rat), big.NewRat(1, 1)}
		for _, edge := range wantSegments(a) {
			if part := sharedPart(seg[0], seg[1], edge[0], edge[1]); part.lo.Cmp(part.hi) <= 0 {
				cuts = append(cuts, part.lo, part.hi)
			}
		}
		slices.SortFunc(cuts, (*big.Rat).Cmp)
		for i, to := range cuts[1:] {
			middle := new(big.Rat).Add(cuts[i], to)
			middle.Mul(middle, big.NewRat(1, 2))
			at := spotAt(between(seg[0].X, seg[1].X, middle), between(seg[0].Y, seg[1].Y, middle))
			if wantLocate(a, at) == impl.LocOut {
				return false
			}
		}
	}
	return true
}

func wantDist(s impl.Shape, p impl.Pt) *big.Rat {
	if wantHas(s, p) {
		return new(big.Rat)
	}
	var least *big.Rat
	for _, seg := range wantSegments(s) {
		if gap := wantGap(p, seg[0], seg[1]); least == nil || gap.Cmp(least) < 0 {
			least = gap
		}
	}
	return least
}

// checkPoint: what all calls answer of a good shape and a point agrees, and is as wanted.
func checkPoint(t *testing.T, s impl.Shape, p impl.Pt) {
	t.Helper()
	has := wantHas(s, p)
	if got := impl.Has(s, p); got != has {
		t.Fatal("Has:", s, p, got)
	}
	checkFrac(t, "Dist", impl.Dist(s, p), wantDist(s, p))
	if nought := impl.Sign(impl.Dist(s, p).N) == 0; nought != has {
		t.Fatal("Dist is 0 just where Has is true:", s, p, nought)
	}
	if impl.ShapesMeet(s, point(p.X, p.Y)) != has || impl.ShapesMeet(point(p.X, p.Y), s) != has || impl.MeetsBox(s, impl.Box{Lo: p, Hi: p}) != has {
		t.Fatal("a point is a shape, and a box:", s, p)
	}
	want := impl.LocOut
	if s.Kind == impl.ShapeArea {
		want = wantLocate(s, spotOf(p))
		if impl.Covers(s, point(p.X, p.Y)) != has {
			t.Fatal("Covers of a point is Has:", s, p)
		}
	}
	if got := impl.Locate(s, p); got != want {
		t.Fatal("Locate:", s, p, got, "not", want)
	}
	if got := impl.LocateFrac(s, fracOf(t, p.X, 1), fracOf(t, p.Y, 1)); got != want {
		t.Fatal("LocateFrac of whole numbers:", s, p, got, "not", want)
	}
}

// checkPair: two good shapes, either way.
func (w wantMeet) checkPair(t *testing.T, a, b impl.Shape) bool {
	t.Helper()
	want := w.shapes(a, b)
	if got := impl.ShapesMeet(a, b); got != want {
		t.Fatal("ShapesMeet:", a, b, got)
	}
	if got := impl.ShapesMeet(b, a); got != want {
		t.Fatal("ShapesMeet, the other way:", b, a, got)
	}
	if want && !impl.Overlap(impl.ShapeBox(a), impl.ShapeBox(b)) {
		t.Fatal("shapes that meet have boxes that overlap:", a, b)
	}
	return want
}

// checkBox: a good shape and a box.
func checkBox(t *testing.T, s impl.Shape, b impl.Box) bool {
	t.Helper()
	meets, within := wantMeetsBox(s, b), wantWithin(s, b)
	if got := impl.MeetsBox(s, b); got != meets {
		t.Fatal("MeetsBox:", s, b, got)
	}
	if got := impl.WithinBox(s, b); got != within {
		t.Fatal("WithinBox:", s, b, got)
	}
	if within && !meets || meets && !impl.Overlap(impl.ShapeBox(s), b) {
		t.Fatal("what is within meets, and what meets has a box that overlaps:", s, b)
	}
	return meets
}

// checkCover: a good area, and a good shape that is none.
func checkCover(t *testing.T, a, s impl.Shape) bool {
	t.Helper()
	want := wantCovers(a, s)
	if got := impl.Covers(a, s); got != want {
		t.Fatal("Covers:", a, s, got)
	}
	if !want {
		return false
	}
	if !impl.ShapesMeet(a, s) || !impl.WithinBox(s, impl.ShapeBox(a)) {
		t.Fatal("what is covered meets it, and is in its box:", a, s)
	}
	for _, p := range slices.Concat(s.Rings...) {
		if !impl.Has(a, p) {
			t.Fatal("what is covered is in:", a, s, p)
		}
	}
	return true
}

// plot has a hole from 2, 2 to 6, 6.
func plot() impl.Shape { return area(square(0, 0, 10), hole(2, 2, 4)) }

// crown has two bays from above, whose corners are at 2, 2 and 6, 2, and three tips, at 0, 6, at 4, 6 and at 8, 6.
func crown() impl.Shape { return area(row(0, 0, 8, 0, 8, 6, 6, 2, 4, 6, 2, 2, 0, 6)) }

// areasWithEdges are small areas, with many corners level with one another, bays, and holes close to edges.
func areasWithEdges() []impl.Shape {
	return []impl.Shape{
		area(square(1, 1, 5)),
		area(row(0, 0, 7, 2, 3, 7)),
		area(row(3, 3, 4, 3, 3, 4)),
		plot(),
		crown(),
		area(row(4, 0, 8, 4, 4, 8, 0, 4)),
		area(row(4, 0, 8, 4, 4, 8, 0, 4), row(4, 2, 2, 4, 4, 6, 6, 4)),
		area(row(0, 0, 8, 0, 8, 3, 2, 3, 2, 5, 8, 5, 8, 8, 0, 8)),
		area(row(0, 0, 3, 0, 8, 0, 8, 5, 8, 8, 4, 8, 0, 8, 0, 4), row(2, 2, 2, 4, 2, 6, 6, 6, 6, 2, 4, 2)),
		area(square(0, 0, 8), hole(1, 1, 2), hole(5, 5, 2)),
		area(square(0, 0, 8), hole(1, 3, 2), hole(4, 3, 2)),
		area(square(0, 0, 9), row(1, 1, 1, 4, 4, 1), row(3, 4, 4, 4, 4, 3), row(5, 5, 5, 8, 8, 5), row(7, 8, 8, 8, 8, 7)),
		area(square(0, 0, 8), row(1, 1, 1, 7, 7, 7, 7, 5, 3, 5, 3, 3, 7, 3, 7, 1)),
		area(row(0, 0, 2, 0, 2, 2, 4, 2, 4, 4, 6, 4, 6, 6, 8, 6, 8, 8, 0, 8)),
		area(row(0, 4, 2, 0, 4, 4, 6, 0, 8, 4, 6, 8, 4, 5, 2, 8)),
	}
}

// A picture has a line for each Y, the highest first and -1 last, and in it a sign for each X from -1 on: `.` is out, `#` on an edge, `o` in.
func checkPicture(t *testing.T, s impl.Shape, picture ...string) {
	t.Helper()
	codes := map[byte]int{'.': impl.LocOut, '#': impl.LocOn, 'o': impl.LocIn}
	for i, line := range picture {
		for j := range line {
			p, want := pt(j-1, len(picture)-2-i), codes[line[j]]
			if got := impl.Locate(s, p); got != want {
				t.Error("Locate:", s, p, got, "not", want)
			}
			if got := impl.LocateFrac(s, fracOf(t, p.X, 1), fracOf(t, p.Y, 1)); got != want {
				t.Error("LocateFrac:", s, p, got, "not", want)
			}
			if got := impl.Has(s, p); got != (want != impl.LocOut) {
				t.Error("Has:", s, p, got)
			}
			checkPoint(t, s, p)
		}
	}
}

func TestLocNumbers(t *testing.T) {
	if impl.LocOut != 0 || impl.LocOn != 1 || impl.LocIn != 2 {
		t.Error("the constants")
	}
}

func TestPicturesOfAreas(t *testing.T) {
	checkPicture(t, area(square(0, 0, 4)),
		".......",
		".#####.",
		".#ooo#.",
		".#ooo#.",
		".#ooo#.",
		".#####.",
		".......")
	checkPicture(t, area(square(0, 0, 6), hole(2, 2, 2)),
		".........",
		".#######.",
		".#ooooo#.",
		".#o###o#.",
		".#o#.#o#.",
		".#o###o#.",
		".#ooooo#.",
		".#######.",
		".........")
	checkPicture(t, area(row(0, 0, 12, 0, 12, 6, 0, 6), hole(1, 1, 2), row(5, 1, 5, 5, 7, 3), hole(9, 2, 2)),
		"...............",
		".#############.",
		".#oooo#oooooo#.",
		".#oooo##oo####.",
		".####o#.#o#.##.",
		".##.#o##oo####.",
		".####o#oooooo#.",
		".#############.",
		"...............")
}

// Many places here are level with a corner: in a bay, in a tip, at the end of an edge that goes on.
func TestPicturesOfBays(t *testing.T) {
	checkPicture(t, crown(),
		"...........",
		".#...#...#.",
		".#...o...#.",
		".##.#o#.##.",
		".#o.ooo.o#.",
		".#o#ooo#o#.",
		".#ooooooo#.",
		".#########.",
		"...........")
	checkPicture(t, area(row(0, 0, 8, 0, 8, 3, 2, 3, 2, 5, 8, 5, 8, 8, 0, 8)),
		"...........",
		".#########.",
		".#ooooooo#.",
		".#ooooooo#.",
		".#o#######.",
		".#o#.......",
		".#o#######.",
		".#ooooooo#.",
		".#ooooooo#.",
		".#########.",
		"...........")
	checkPicture(t, area(row(4, 0, 8, 4, 4, 8, 0, 4), row(4, 2, 2, 4, 4, 6, 6, 4)),
		"...........",
		".....#.....",
		"....#o#....",
		"...#o#o#...",
		"..#o#.#o#..",
		".#o#...#o#.",
		"..#o#.#o#..",
		"...#o#o#...",
		"....#o#....",
		".....#.....",
		"...........")
}

func TestLocateAtMaxCoord(t *testing.T) {
	all := area(row(-most, -most, most, -most, most, most, -most, most))
	rim := area(all.Rings[0], row(1-most, 1-most, 1-most, most-1, most-1, most-1, most-1, 1-most))
	needle := area(row(-most, -most, most, most-1, most, most))
	for _, c := range []struct {
		s    impl.Shape
		p    impl.Pt
		want int
	}{
		{all, pt(0, 0), impl.LocIn}, {all, pt(most, most), impl.LocOn}, {all, pt(-most, -most), impl.LocOn}, {all, pt(-most, 3), impl.LocOn}, {all, pt(3, most), impl.LocOn}, {all, pt(most-1, 1-most), impl.LocIn},
		{rim, pt(0, 0), impl.LocOut}, {rim, pt(most, 0), impl.LocOn}, {rim, pt(most-1, 0), impl.LocOn}, {rim, pt(most-2, 0), impl.LocOut}, {rim, pt(1-most, most-1), impl.LocOn}, {rim, pt(-most, most-1), impl.LocOn},
		{needle, pt(0, 0), impl.LocOn}, {needle, pt(1, 0), impl.LocOut}, {needle, pt(0, 1), impl.LocOut}, {needle, pt(most, most), impl.LocOn}, {needle, pt(most, most-1), impl.LocOn}, {needle, pt(most-1, most-1), impl.LocOn}, {needle, pt(-most, most), impl.LocOut}, {needle, pt(most, -most), impl.LocOut},
		{area(row(-most, -most, most, most-2, most, most)), pt(most, most-1), impl.LocOn}, {area(row(-most, -most, most, most-3, most-1, most)), pt(most-1, most-2), impl.LocIn},
		{area(row(most-1, most-1, most, most-1, most, most)), pt(most-1, most), impl.LocOut}, {area(row(-most, -most, 1-most, -most, -most, 1-most)), pt(-most, 1-most), impl.LocOn},
	} {
		if got := impl.Locate(c.s, c.p); got != c.want {
			t.Error("Locate:", c.s, c.p, got, "not", c.want)
		}
		checkPoint(t, c.s, c.p)
	}
}

// halves: the same fraction may be told in many ways.
func halves(n int) []impl.Frac {
	great := powerOf(700)
	return []impl.Frac{
		{N: impl.Of(n), D: impl.Of(2)}, {N: impl.Of(3 * n), D: impl.Of(6)}, {N: impl.Of(1000 * n), D: impl.Of(2000)},
		{N: impl.Mul(impl.Of(n), great), D: impl.Mul(impl.Of(2), great)},
		{N: impl.Mul(impl.Of(n), full(23, math.MaxUint32)), D: impl.Mul(impl.Of(2), full(23, math.MaxUint32))},
	}
}

func TestLocateFrac(t *testing.T) {
	for _, c := range []struct {
		x, y, want int
	}{
		{1, 1, impl.LocIn}, {19, 19, impl.LocIn}, {0, 1, impl.LocOn}, {1, 0, impl.LocOn}, {20, 11, impl.LocOn}, {-1, 1, impl.LocOut}, {1, -1, impl.LocOut}, {21, 11, impl.LocOut}, {11, 21, impl.LocOut}, {21, 0, impl.LocOut}, {-1, 20, impl.LocOut},
		{4, 5, impl.LocOn}, {5, 4, impl.LocOn}, {12, 7, impl.LocOn}, {5, 12, impl.LocOn}, {4, 4, impl.LocOn}, {12, 12, impl.LocOn}, {5, 5, impl.LocOut}, {11, 11, impl.LocOut}, {9, 8, impl.LocOut}, {3, 4, impl.LocIn}, {4, 3, impl.LocIn}, {13, 12, impl.LocIn}, {12, 13, impl.LocIn}, {3, 9, impl.LocIn},
	} {
		for _, x := range halves(c.x) {
			for _, y := range halves(c.y) {
				if got := impl.LocateFrac(plot(), x, y); got != c.want {
					t.Error("LocateFrac:", impl.FracText(x), impl.FracText(y), got, "not", c.want)
				}
			}
		}
	}
	slope := area(row(0, 0, 3, 1, 0, 5))
	for _, c := range []struct {
		x, y [2]int
		want int
	}{
		{[2]int{1, 1}, [2]int{1, 3}, impl.LocOn}, {[2]int{1, 2}, [2]int{1, 6}, impl.LocOn}, {[2]int{1, 2}, [2]int{1, 7}, impl.LocOut}, {[2]int{1, 2}, [2]int{1, 5}, impl.LocIn},
		{[2]int{9, 2}, [2]int{3, 2}, impl.LocOut}, {[2]int{-3, 2}, [2]int{-1, 2}, impl.LocOut}, {[2]int{3, 4}, [2]int{4, 1}, impl.LocOn}, {[2]int{15, 4}, [2]int{0, 1}, impl.LocOut}, {[2]int{1, 1000000007}, [2]int{1, 1}, impl.LocIn}, {[2]int{-1, 1000000007}, [2]int{1, 1}, impl.LocOut},
	} {
		x, y := fracOf(t, c.x[0], c.x[1]), fracOf(t, c.y[0], c.y[1])
		if got := impl.LocateFrac(slope, x, y); got != c.want {
			t.Error("LocateFrac:", c, got)
		}
	}
}

// checkSpot: LocateFrac of a good area is as the library reckons it.
func checkSpot(t *testing.T, s impl.Shape, x, y impl.Frac) int {
	t.Helper()
	want := wantLocate(s, spotAt(ratOf(x), ratOf(y)))
	if got := impl.LocateFrac(s, x, y); got != want {
		t.Fatal("LocateFrac:", s, impl.FracText(x), impl.FracText(y), got, "not", want)
	}
	return want
}

// All places at halves, thirds and quarters, in and around small areas.
func TestLocateFracAtEachPlace(t *testing.T) {
	for i, s := range areasWithEdges() {
		t.Run(fmt.Sprint(i), func(t *testing.T) {
			t.Parallel()
			seen := map[int]int{}
			for _, by := range [][2]int{{2, 2}, {3, 2}, {3, 4}} {
				for n := -by[0]; n <= 10*by[0]; n++ {
					for m := -by[1]; m <= 10*by[1]; m++ {
						seen[checkSpot(t, s, impl.Frac{N: impl.Of(n), D: impl.Of(by[0])}, impl.Frac{N: impl.Of(m), D: impl.Of(by[1])})]++
					}
				}
			}
			if len(seen) != 3 {
				t.Error("the test itself is wrong:", seen)
			}
		})
	}
}

// besideOf is f, and a fraction so close below it and one above it that their parts have about so many bits.
func besideOf(n, d, bits int) [3]impl.Frac {
	step := powerOf(bits)
	by := impl.Mul(step, impl.Of(d))
	at := impl.Mul(step, impl.Of(n))
	return [3]impl.Frac{{N: impl.Sub(at, impl.Of(1)), D: by}, {N: at, D: by}, {N: impl.Add(at, impl.Of(1)), D: by}}
}

// Places so close beside an edge that only their last bit tells.
func TestLocateFracCloseBesideAnEdge(t *testing.T) {
	slope := area(row(-9, -3, 9, 3, -9, 5), row(-3, 0, -3, 1, 0, 1))
	for _, bits := range []int{20, 53, 64, 200, 760} {
		for _, c := range []struct {
			x, d int
		}{{1, 1}, {2, 1}, {-5, 1}, {1, 2}, {5, 7}, {0, 1}} {
			// On the way from -9, -3 to 9, 3 Y is a third of X.
			xs, ys := besideOf(c.x, c.d, bits), besideOf(c.x, 3*c.d, bits)
			for i, y := range ys {
				want := []int{impl.LocOut, impl.LocOn, impl.LocIn}[i]
				if got := checkSpot(t, slope, xs[1], y); got != want {
					t.Error("beside the edge, by Y:", bits, c, i, got)
				}
			}
			for i, x := range xs {
				want := []int{impl.LocIn, impl.LocOn, impl.LocOut}[i]
				if got := checkSpot(t, slope, x, ys[1]); got != want {
					t.Error("beside the edge, by X:", bits, c, i, got)
				}
			}
			if checkSpot(t, slope, xs[0], ys[0]) != impl.LocOn || checkSpot(t, slope, xs[2], ys[2]) != impl.LocOn {
				t.Error("along the edge:", bits, c)
			}
			if checkSpot(t, slope, xs[0], ys[2]) != impl.LocIn || checkSpot(t, slope, xs[2], ys[0]) != impl.LocOut {
				t.Error("right across the edge:", bits, c)
			}
		}
		// The hole's last edge goes from 0, 1 to -3, 0.
		xs, ys := besideOf(-3, 2, bits), besideOf(1, 2, bits)
		for i, y := range ys {
			if got := checkSpot(t, slope, xs[1], y); got != []int{impl.LocIn, impl.LocOn, impl.LocOut}[i] {
				t.Error("beside a hole's edge, by Y:", bits, i, got)
			}
		}
		for i, x := range xs {
			if got := checkSpot(t, slope, x, ys[1]); got != []int{impl.LocOut, impl.LocOn, impl.LocIn}[i] {
				t.Error("beside a hole's edge, by X:", bits, i, got)
			}
		}
	}
}

func TestLocateFracCloseBesideCorners(t *testing.T) {
	for _, s := range []impl.Shape{plot(), crown(), area(row(-most, -most, most, most-1, most, most)), area(row(-most, -most, most, -most, most, most, -most, most))} {
		for _, p := range slices.Concat(s.Rings...) {
			for _, bits := range []int{1, 40, 735} {
				for _, x := range besideOf(p.X, 1, bits) {
					for _, y := range besideOf(p.Y, 1, bits) {
						checkSpot(t, s, x, y)
					}
				}
			}
		}
	}
}

func TestLocateFracOfGreatParts(t *testing.T) {
	d := &dice{61}
	all := area(row(-most, -most, most, -most, most, most, -most, most), row(0, 0, 0, 5, 5, 5))
	great, one := full(impl.MaxLimbs, math.MaxUint32), impl.Of(1)
	seen := map[int]int{}
	for _, x := range []impl.Frac{{N: great, D: one}, {N: impl.Neg(great), D: one}, {N: one, D: great}, {N: impl.Neg(one), D: great}, {N: great, D: great}, {D: great}, {N: impl.Neg(great), D: impl.Sub(great, one)}} {
		for _, y := range []impl.Frac{{N: great, D: one}, {N: impl.Neg(great), D: one}, {N: one, D: great}, {N: great, D: great}, {D: one}, {N: impl.Sub(great, one), D: great}} {
			seen[checkSpot(t, all, x, y)]++
			seen[checkSpot(t, all, y, x)]++
		}
	}
	if len(seen) != 3 {
		t.Error("the test itself is wrong:", seen)
	}
	for range rounds {
		checkSpot(t, all, d.frac(impl.MaxLimbs), d.frac(impl.MaxLimbs))
	}
	// On an edge of great slope, at a place with great parts: from a to b as far as part says.
	for range rounds / 4 {
		a, b, c := d.pt(), d.pt(), d.pt()
		s := area([]impl.Pt{a, b, c})
		if impl.Turn(a, b, c) < 0 {
			s = area([]impl.Pt{a, c, b})
		}
		if !good(s) {
			continue
		}
		part := impl.Frac{N: d.num(20), D: powerOf(640)}
		part.N.Neg = false
		x := impl.AddFrac(fracOf(t, a.X, 1), impl.MulFrac(part, fracOf(t, b.X-a.X, 1)))
		y := impl.AddFrac(fracOf(t, a.Y, 1), impl.MulFrac(part, fracOf(t, b.Y-a.Y, 1)))
		if got := checkSpot(t, s, x, y); got != impl.LocOn {
			t.Error("on an edge:", s, impl.FracText(x), impl.FracText(y), got)
		}
		tiny := impl.Frac{N: one, D: powerOf(700)}
		checkSpot(t, s, impl.AddFrac(x, tiny), y)
		checkSpot(t, s, x, impl.AddFrac(y, tiny))
	}
}

func TestHas(t *testing.T) {
	for _, c := range []struct {
		s       impl.Shape
		has, no []impl.Pt
	}{
		{point(3, -4), row(3, -4), row(3, 4, -3, -4, -4, 3, 0, 0, 3, -5, 2, -4)},
		{points(1, 2, -3, 4, 5, -6, 1, 2), row(1, 2, -3, 4, 5, -6), row(2, 1, -1, 3, 1, 4, 5, 2, 3, -2, 0, 0)},
		{line(0, 0, 4, 2), row(0, 0, 4, 2, 2, 1), row(1, 0, 1, 1, 3, 1, 3, 2, 6, 3, -2, -1, 2, 0, 4, 0, 0, 2)},
		{line(0, 0, 5, 0, 5, 5), row(0, 0, 3, 0, 5, 0, 5, 2, 5, 5), row(2, 2, 0, 5, 6, 0, -1, 0, 5, 6, 5, -1)},
		{line(0, 0, 5, 0, 5, 5, 0, 0), row(3, 3, 0, 0, 5, 5), row(4, 2, 3, 1, 6, 6)},
		{lines(row(0, 0, 4, 0), row(0, 3, 4, 3, 4, 9)), row(0, 0, 2, 0, 4, 0, 0, 3, 2, 3, 4, 3, 4, 7, 4, 9), row(4, 1, 0, 1, 5, 0, 4, 2, 2, 2, 4, 10)},
		{area(square(0, 0, 4)), row(0, 0, 4, 4, 2, 0, 4, 1, 2, 2, 1, 3), row(5, 2, -1, 0, 2, -1, 2, 5, 5, 0, 0, 5, 5, 5)},
		{plot(), row(0, 0, 1, 1, 2, 2, 2, 4, 4, 2, 6, 6, 6, 5, 3, 6, 7, 3, 10, 10), row(3, 3, 4, 4, 5, 5, 3, 5, 11, 2, -1, 2, 4, 11)},
		{line(-most, -most, most, most), row(-most, -most, most, most, 7, 7), row(most, most-1, -most, most, 0, 1)},
		{line(-most, -most, most, most-1), row(-most, -most, most, most-1), row(0, 0, 0, -1, most-1, most-1, most-1, most-2, most, most)},
		{points(most, -most, -most, most), row(most, -most, -most, most), row(most, most, -most, -most, 0, 0)},
	} {
		for _, p := range c.has {
			if !impl.Has(c.s, p) {
				t.Error("Has not:", c.s, p)
			}
			checkPoint(t, c.s, p)
		}
		for _, p := range c.no {
			if impl.Has(c.s, p) {
				t.Error("Has:", c.s, p)
			}
			checkPoint(t, c.s, p)
		}
	}
}

func TestDist(t *testing.T) {
	spread := lines(row(0, 0, 9, 0), row(0, 9, 9, 9), row(20, 0, 21, 2))
	for _, c := range []struct {
		s    impl.Shape
		p    impl.Pt
		want string
	}{
		{point(3, -4), pt(0, 0), "25"}, {point(3, -4), pt(3, -4), "0"}, {point(-most, -most), pt(most, most), "800000000000000"}, {point(5, 5), pt(4, 5), "1"},
		{points(10, 0, 0, 3, -9, -9), pt(0, 0), "9"}, {points(10, 0, 0, 3, -9, -9), pt(9, 1), "2"}, {points(10, 0, 0, 3, -9, -9), pt(-9, -9), "0"}, {points(1, 1, 1, 1), pt(2, 3), "5"},
		{line(0, 0, 2, 2), pt(0, 1), "1/2"}, {line(0, 0, 2, 2), pt(1, 1), "0"}, {line(0, 0, 2, 2), pt(3, 3), "2"}, {line(0, 0, 3, 1), pt(0, 3), "81/10"}, {line(0, 0, 3, 1), pt(1, 1), "2/5"}, {line(0, 0, 3, 1), pt(-1, -1), "2"}, {line(0, 0, 10, 0, 10, 10), pt(8, 3), "4"}, {line(0, 0, 10, 0, 10, 10), pt(3, 2), "4"}, {line(0, 0, 10, 0, 10, 10), pt(0, 10), "100"},
		{spread, pt(4, 4), "16"}, {spread, pt(4, 5), "16"}, {spread, pt(19, 1), "9/5"}, {spread, pt(4, 9), "0"}, {spread, pt(15, 0), "25"},
		{area(square(0, 0, 10)), pt(12, 5), "4"}, {area(square(0, 0, 10)), pt(13, 14), "25"}, {area(square(0, 0, 10)), pt(5, 5), "0"}, {area(square(0, 0, 10)), pt(10, 7), "0"}, {area(square(0, 0, 10)), pt(-3, 4), "9"},
		{area(row(0, 0, 10, 0, 0, 10)), pt(10, 10), "50"}, {area(row(0, 0, 10, 0, 0, 10)), pt(6, 5), "1/2"}, {area(row(0, 0, 10, 0, 0, 10)), pt(5, 5), "0"}, {area(row(0, 0, 10, 0, 0, 10)), pt(3, 3), "0"}, {area(row(0, 0, 7, 2, 3, 7)), pt(4, 0), "64/53"},
		{plot(), pt(4, 4), "4"}, {plot(), pt(3, 4), "1"}, {plot(), pt(5, 4), "1"}, {plot(), pt(2, 4), "0"}, {plot(), pt(6, 6), "0"}, {plot(), pt(1, 4), "0"}, {plot(), pt(-2, -2), "8"}, {plot(), pt(14, 4), "16"},
		{area(row(4, -9, 17, 4, 4, 17, -9, 4), row(4, 1, 1, 4, 4, 7, 7, 4)), pt(4, 4), "9/2"}, {area(square(0, 0, 20), hole(1, 1, 6), hole(9, 9, 9)), pt(3, 4), "4"}, {area(square(0, 0, 20), hole(1, 1, 6), hole(9, 9, 9)), pt(13, 12), "9"},
		{crown(), pt(2, 6), "16/5"}, {crown(), pt(2, 3), "1/5"}, {crown(), pt(6, 6), "16/5"},
		{line(-most, -most, most, most-1), pt(0, 0), "100000000000000/799999960000001"}, {line(-most, -most, most, most-1), pt(most, most), "1"}, {line(-most, most, most, most), pt(0, -most), "400000000000000"}, {area(row(-most, -most, most, -most, most, most)), pt(-most, most), "200000000000000"},
		{area(row(-most, -most, most, -most, most, most, -most, most), row(1-most, 1-most, 1-most, most-1, most-1, most-1, most-1, 1-most)), pt(0, 0), "99999980000001"},
	} {
		checkFrac(t, "Dist", impl.Dist(c.s, c.p), ratText(t, c.want))
		if t.Failed() {
			t.Fatal("at", c.s, c.p)
		}
		checkPoint(t, c.s, c.p)
	}
}

// No point that a shape has is nearer than Dist.
func TestNoPointIsNearerThanDist(t *testing.T) {
	for _, s := range append(areasWithEdges(), line(0, 0, 7, 3, 2, 9), points(1, 8, 7, 2), lines(row(0, 3, 9, 5), row(8, 0, 9, 1))) {
		var has, all []impl.Pt
		for x := -2; x <= 11; x++ {
			for y := -2; y <= 11; y++ {
				all = append(all, pt(x, y))
				if impl.Has(s, pt(x, y)) {
					has = append(has, pt(x, y))
				}
			}
		}
		for _, p := range all {
			dist := ratOf(impl.Dist(s, p))
			for _, q := range has {
				if dist.Cmp(big.NewRat(int64((p.X-q.X)*(p.X-q.X)+(p.Y-q.Y)*(p.Y-q.Y)), 1)) > 0 {
					t.Fatal("nearer than Dist:", s, p, q, dist)
				}
			}
			checkPoint(t, s, p)
		}
	}
}

type together struct {
	what string
	a, b impl.Shape
	want bool
}

func checkTogether(t *testing.T, list []together) {
	t.Helper()
	w := wantMeet{}
	for _, c := range list {
		if !good(c.a) || !good(c.b) {
			t.Fatal("the test itself is wrong:", c.what)
		}
		if got := impl.ShapesMeet(c.a, c.b); got != c.want {
			t.Error(c.what, "ShapesMeet:", got)
		}
		if got := impl.ShapesMeet(c.b, c.a); got != c.want {
			t.Error(c.what, "ShapesMeet, the other way:", got)
		}
		w.checkPair(t, c.a, c.b)
	}
}

// Each pair of kinds, with shapes that meet and shapes that do not.
func TestKindsThatMeet(t *testing.T) {
	list := []together{
		{"point, point", point(3, 4), point(3, 4), true},
		{"point, point, apart", point(3, 4), point(4, 3), false},
		{"point, points", point(3, 4), points(1, 1, 3, 4), true},
		{"point, points, apart", point(1, 4), points(1, 1, 3, 4), false},
		{"point, line", point(2, 1), line(0, 0, 4, 2), true},
		{"point, line, apart", point(2, 2), line(0, 0, 4, 2), false},
		{"point, line, beyond", point(6, 3), line(0, 0, 4, 2), false},
		{"point, lines", point(7, 1), lines(row(0, 0, 4, 2), row(7, 0, 7, 2)), true},
		{"point, lines, apart", point(5, 1), lines(row(0, 0, 4, 2), row(7, 0, 7, 2)), false},
		{"point, area, in", point(1, 1), plot(), true},
		{"point, area, on", point(10, 3), plot(), true},
		{"point, area, on a hole's edge", point(2, 3), plot(), true},
		{"point, area, on a hole's corner", point(6, 2), plot(), true},
		{"point, area, in a hole", point(3, 3), plot(), false},
		{"point, area, apart", point(11, 3), plot(), false},
		{"points, points", points(1, 2, 3, 4, 5, 6), points(9, 9, 5, 6, 8, 8), true},
		{"points, points, apart", points(1, 2, 3, 4), points(2, 1, 4, 3, 1, 4, 3, 2), false},
		{"points, points, apart on one way", points(0, 0, 4, 4), points(1, 1, 3, 3), false},
		{"points, line", points(9, 9, 2, 1), line(0, 0, 4, 2), true},
		{"points, line, apart on both sides", points(2, 0, 2, 2), line(0, 0, 4, 2), false},
		{"points, lines", points(9, 9, 7, 1), lines(row(0, 0, 4, 2), row(7, 0, 7, 2)), true},
		{"points, lines, apart", points(9, 9, 6, 1, 7, 3), lines(row(0, 0, 4, 2), row(7, 0, 7, 2)), false},
		{"points, area, the last one in", points(3, 3, 20, 20, 4, 4, 1, 1), plot(), true},
		{"points, area, the first one in", points(1, 1, 3, 3, 20, 20), plot(), true},
		{"points, area, one on a hole's edge", points(3, 3, 6, 3), plot(), true},
		{"points, area, around it and in its hole", points(3, 3, -1, 5, 11, 5, 5, 11, 5, -1), plot(), false},
		{"line, line, cross", line(0, 0, 4, 4), line(0, 4, 4, 0), true},
		{"line, line, cross between whole points", line(0, 0, 3, 1), line(1, 0, 2, 1), true},
		{"line, line, end to end", line(0, 0, 4, 4), line(4, 4, 9, 0), true},
		{"line, line, an end between", line(0, 0, 4, 4), line(2, 2, 9, 0), true},
		{"line, line, along", line(0, 0, 4, 4), line(2, 2, 9, 9), true},
		{"line, line, apart on one way", line(0, 0, 4, 4), line(5, 5, 9, 9), false},
		{"line, line, beside", line(0, 0, 4, 4), line(0, 1, 3, 4), false},
		{"line, line, would cross behind its end", line(0, 0, 4, 4), line(9, 0, 5, 4), false},
		{"line, line, the last segments meet", line(0, 0, 5, 0, 5, 5), line(20, 20, 20, 3, 4, 3), true},
		{"line, line, no way from its last to its first", line(0, 0, 6, 0, 6, 6), line(2, 4, 4, 2), false},
		{"line, lines", line(0, 0, 9, 9), lines(row(20, 0, 30, 0), row(5, 0, 0, 5)), true},
		{"line, lines, between two rows", line(0, 5, 9, 5), lines(row(0, 0, 9, 4), row(0, 6, 9, 9)), false},
		{"line, area, crosses", line(-5, 5, 15, 5), plot(), true},
		{"line, area, in, without touching an edge", line(7, 1, 9, 9), plot(), true},
		{"line, area, in a hole", line(3, 3, 5, 5, 3, 5), plot(), false},
		{"line, area, touches a hole's edge from within", line(3, 3, 6, 4), plot(), true},
		{"line, area, touches a hole's corner from within", line(3, 3, 2, 2), plot(), true},
		{"line, area, touches a hole's edge between", line(3, 4, 2, 3, 3, 3), plot(), true},
		{"line, area, along a hole's edge", line(2, 3, 2, 5), plot(), true},
		{"line, area, all along a hole's edge", line(2, 2, 2, 6), plot(), true},
		{"line, area, from a hole out", line(4, 4, 8, 4), plot(), true},
		{"line, area, touches a corner", line(8, 12, 12, 8), plot(), true},
		{"line, area, past a corner", line(8, 13, 13, 8), plot(), false},
		{"line, area, on the way of an edge", line(11, 0, 15, 0), plot(), false},
		{"line, area, along an edge from outside", line(-5, 0, 5, 0), plot(), true},
		{"line, area, around", line(-1, -1, 11, -1, 11, 11, -1, 11, -1, -1), plot(), false},
		{"line, area, in a bay", line(2, 5, 2, 3, 2, 9), crown(), false},
		{"line, area, between tips", line(1, 6, 3, 6), crown(), false},
		{"lines, lines", lines(row(0, 0, 1, 0), row(5, 5, 9, 9)), lines(row(20, 0, 21, 0), row(9, 5, 5, 9)), true},
		{"lines, lines, apart", lines(row(0, 0, 1, 0), row(5, 5, 9, 9)), lines(row(0, 1, 1, 1), row(5, 6, 8, 9)), false},
		{"lines, area, the second row in", lines(row(3, 3, 5, 5), row(7, 1, 9, 9)), plot(), true},
		{"lines, area, the first row in", lines(row(7, 1, 9, 9), row(3, 3, 5, 5)), plot(), true},
		{"lines, area, the last row touches", lines(row(3, 3, 5, 5), row(11, 0, 11, 9), row(12, 5, 10, 5)), plot(), true},
		{"lines, area, in its holes and around it", lines(row(3, 3, 5, 5), row(11, 0, 11, 11), row(-1, 0, -1, 11)), plot(), false},
	}
	checkTogether(t, list)
	seen := map[[2]int]int{}
	for _, c := range list {
		for _, kind := range [][2]int{{c.a.Kind, c.b.Kind}, {c.b.Kind, c.a.Kind}} {
			seen[kind] |= map[bool]int{false: 1, true: 2}[c.want]
		}
	}
	for _, a := range allKinds() {
		for _, b := range allKinds() {
			if seen[[2]int{a, b}] != 3 && (a != impl.ShapeArea || b != impl.ShapeArea) {
				t.Error("the test itself is wrong: kinds", a, b, seen)
			}
		}
	}
}

func TestAreasThatMeet(t *testing.T) {
	rim := area(square(0, 0, 100), hole(20, 20, 60))
	checkTogether(t, []together{
		{"cross", area(square(0, 0, 4)), area(square(2, 2, 4)), true},
		{"cross without a corner in the other", area(row(0, 4, 9, 4, 9, 6, 0, 6)), area(row(4, 0, 6, 0, 6, 9, 4, 9)), true},
		{"apart", area(square(0, 0, 4)), area(square(5, 0, 4)), false},
		{"apart, boxes overlap", area(row(0, 0, 9, 0, 0, 9)), area(row(9, 9, 5, 9, 9, 5)), false},
		{"touch at a corner", area(square(0, 0, 4)), area(square(4, 4, 4)), true},
		{"touch along a side", area(square(0, 0, 4)), area(square(4, 1, 2)), true},
		{"a corner on an edge", area(square(0, 0, 4)), area(row(4, 2, 7, 0, 7, 4)), true},
		{"the same", plot(), plot(), true},
		{"in a hole", plot(), area(square(3, 3, 2)), false},
		{"in a hole, a corner on its edge", plot(), area(row(2, 4, 4, 3, 4, 5)), true},
		{"in a hole, along its edge", plot(), area(square(2, 3, 2)), true},
		{"in a hole, in its corner", plot(), area(square(2, 2, 2)), true},
		{"fills a hole", plot(), area(square(2, 2, 4)), true},
		{"fills a hole, from another corner", plot(), area(from(square(2, 2, 4), 2)), true},
		{"from a hole out", plot(), area(row(4, 4, 8, 3, 8, 5)), true},
		{"in it without touching", plot(), area(square(7, 7, 2)), true},
		{"in it, around its hole", plot(), area(square(1, 1, 8)), true},
		{"around it", plot(), area(square(-5, -5, 30)), true},
		{"it lies in the other one's hole", plot(), area(square(-5, -5, 30), hole(-1, -1, 12)), false},
		{"it fills the other one's hole", plot(), area(square(-5, -5, 30), hole(0, 0, 10)), true},
		{"around it, with a hole elsewhere", plot(), area(square(-5, -5, 30), hole(15, 15, 5)), true},
		{"around it, with a hole in its hole", rim, area(square(-10, -10, 200), hole(30, 30, 40)), true},
		{"around it, with a hole in it", rim, area(square(-10, -10, 200), hole(5, 5, 4)), true},
		{"a rim within the rim", rim, area(square(10, 10, 80), hole(15, 15, 70)), true},
		{"a rim in the rim's hole", rim, area(square(30, 30, 40), hole(40, 40, 20)), false},
		{"a rim around the rim", rim, area(square(-10, -10, 120), hole(-5, -5, 110)), false},
		{"a rim whose hole is in the rim's hole", rim, area(square(10, 10, 80), hole(30, 30, 40)), true},
		{"a rim whose hole is around the rim's hole", rim, area(square(5, 5, 90), hole(10, 10, 80)), true},
		{"in the second hole", area(square(0, 0, 20), hole(1, 1, 4), hole(10, 10, 6)), area(square(12, 12, 2)), false},
		{"between two holes", area(square(0, 0, 20), hole(1, 1, 4), hole(10, 10, 6)), area(square(7, 7, 2)), true},
		{"in a bay", area(row(0, 0, 9, 0, 9, 9, 6, 9, 6, 3, 3, 3, 3, 9, 0, 9)), area(square(4, 4, 1)), false},
		{"in a bay, up to its edges", area(row(0, 0, 9, 0, 9, 9, 6, 9, 6, 3, 3, 3, 3, 9, 0, 9)), area(row(4, 5, 6, 5, 5, 6)), true},
		{"in a hole's bay, which is land", area(square(0, 0, 10), row(1, 1, 1, 9, 2, 9, 2, 2, 8, 2, 8, 9, 9, 9, 9, 1)), area(square(4, 4, 2)), true},
		{"all there is, a corner", area(row(-most, -most, most, -most, most, most, -most, most)), area(row(most-1, most, most, most-1, most, most)), true},
		{"a rim of all there is, and its middle", area(row(-most, -most, most, -most, most, most, -most, most), row(1-most, 1-most, 1-most, most-1, most-1, most-1, most-1, 1-most)), area(row(2-most, 2-most, most-2, 2-most, most-2, most-2, 2-most, most-2)), false},
		{"a rim of all there is, filled", area(row(-most, -most, most, -most, most, most, -most, most), row(1-most, 1-most, 1-most, most-1, most-1, most-1, most-1, 1-most)), area(row(1-most, 1-most, most-1, 1-most, most-1, most-1, 1-most, most-1)), true},
		{"needles beside each other", area(row(-most, -most, most, most-1, most, most)), area(row(-most, 1-most, most-1, most, -most, 2-most)), false},
		{"needles that touch", area(row(-most, -most, most, most-1, most, most)), area(row(0, 0, most-1, most, -1, 0)), true},
	})
}

// One area moved over another one to each place: in it, in its holes and bays, up to its edges, around it.
func TestAreasAtEachPlace(t *testing.T) {
	movers := []impl.Shape{
		area(row(0, 0, 1, 0, 0, 1)), area(square(0, 0, 1)), area(square(0, 0, 2)), area(row(0, 0, 3, 1, 1, 3)),
		area(square(0, 0, 6), hole(1, 1, 4)), area(square(0, 0, 12), hole(1, 1, 10)), area(square(0, 0, 9)),
	}
	for i, s := range areasWithEdges() {
		t.Run(fmt.Sprint(i), func(t *testing.T) {
			t.Parallel()
			w := wantMeet{}
			seen := map[bool]int{}
			for _, mover := range movers {
				for x := -6; x <= 10; x++ {
					for y := -6; y <= 10; y++ {
						seen[w.checkPair(t, s, moved(mover, x, y))]++
					}
				}
			}
			if seen[true] < 100 || seen[false] < 100 {
				t.Error("the test itself is wrong:", seen)
			}
		})
	}
}

func moved(s impl.Shape, x, y int) impl.Shape {
	out := cloned(s)
	for _, row := range out.Rings {
		for i := range row {
			row[i] = pt(row[i].X+x, row[i].Y+y)
		}
	}
	return out
}

func TestCovers(t *testing.T) {
	for _, c := range []struct {
		what string
		a, s impl.Shape
		want bool
	}{
		{"a point in", plot(), point(1, 1), true},
		{"a point on a hole's edge", plot(), point(4, 6), true},
		{"a point on a hole's corner", plot(), point(2, 6), true},
		{"a point in a hole", plot(), point(4, 5), false},
		{"a point outside", plot(), point(11, 5), false},
		{"points in and on", plot(), points(1, 1, 2, 2, 10, 10, 6, 4, 9, 9), true},
		{"points, the last in a hole", plot(), points(1, 1, 2, 2, 3, 3), false},
		{"points, one outside between", plot(), points(1, 1, 12, 2, 2, 2), false},
		{"points, the first outside", plot(), points(-1, 1, 2, 2), false},
		{"a line in", plot(), line(7, 1, 9, 9), true},
		{"a line outside", plot(), line(12, 1, 12, 9), false},
		{"a line in a hole", plot(), line(3, 3, 5, 5), false},
		{"a line all around in it", plot(), line(1, 1, 8, 1, 8, 8, 1, 8, 1, 1), true},
		{"along all edges", plot(), line(0, 0, 10, 0, 10, 10, 0, 10, 0, 0), true},
		{"along all edges, the other way", plot(), line(0, 0, 0, 10, 10, 10, 10, 0, 0, 0), true},
		{"along a part of an edge", plot(), line(10, 3, 10, 7), true},
		{"along an edge and beyond its end", plot(), line(5, 0, 12, 0), false},
		{"along an edge from ahead of it", plot(), line(-1, 0, 5, 0), false},
		{"along all of a hole's edges", plot(), line(2, 2, 2, 6, 6, 6, 6, 2, 2, 2), true},
		{"along all of a hole's edges, the other way", plot(), line(2, 2, 6, 2, 6, 6, 2, 6, 2, 2), true},
		{"along a hole's edge and beyond both ends", plot(), line(2, 0, 2, 10), true},
		{"along a hole's edge, then into it", plot(), line(2, 0, 2, 4, 3, 4), false},
		{"along a hole's edge, then away from it", plot(), line(2, 0, 2, 4, 1, 4), true},
		{"up to a hole's edge", plot(), line(0, 3, 2, 3), true},
		{"away from a hole's edge", plot(), line(2, 3, 0, 3), true},
		{"from a hole's edge into it", plot(), line(2, 3, 4, 3), false},
		{"into a hole", plot(), line(0, 3, 4, 3), false},
		{"out of a hole", plot(), line(4, 3, 0, 3), false},
		{"through a hole and back", plot(), line(1, 3, 7, 3), false},
		{"through a hole from edge to edge", plot(), line(2, 3, 6, 4), false},
		{"through a hole from corner to corner", plot(), line(2, 2, 6, 6), false},
		{"through a hole from a corner to an edge", plot(), line(2, 2, 6, 5), false},
		{"through two corners of a hole and beyond", plot(), line(1, 1, 8, 8), false},
		{"over a corner of a hole", plot(), line(0, 4, 4, 8), true},
		{"over a corner of a hole, the other way", plot(), line(4, 8, 0, 4), true},
		{"up to a corner of a hole", plot(), line(1, 1, 2, 2), true},
		{"into a hole at its corner", plot(), line(1, 1, 3, 3), false},
		{"bent at a corner of a hole", plot(), line(1, 1, 2, 2, 1, 3), true},
		{"bent at a corner of a hole into it", plot(), line(1, 1, 2, 2, 3, 4), false},
		{"up to an edge", plot(), line(8, 8, 10, 9), true},
		{"from an edge outwards", plot(), line(10, 9, 12, 9), false},
		{"out over an edge", plot(), line(8, 8, 12, 8), false},
		{"in over an edge", plot(), line(12, 8, 8, 8), false},
		{"through all of it", plot(), line(-1, 8, 12, 8), false},
		{"from edge to edge", plot(), line(0, 8, 10, 8), true},
		{"up to a corner", plot(), line(9, 9, 10, 10), true},
		{"out through a corner", plot(), line(9, 9, 11, 11), false},
		{"from a corner outwards", plot(), line(10, 10, 11, 11), false},
		{"from a corner outwards on an edge's way", plot(), line(10, 10, 10, 12), false},
		{"only its corner", plot(), line(9, 11, 11, 9), false},
		{"out and back to where it left", plot(), line(5, 8, 5, 12, 5, 8), false},
		{"the second segment leaves", plot(), line(1, 1, 1, 8, 12, 8), false},
		{"the first segment is outside", plot(), line(-3, 8, -1, 8, 1, 8), false},
		{"begins outside, all else in", plot(), line(-1, 1, 1, 1, 1, 8), false},
		{"there and back", plot(), line(1, 1, 1, 9, 1, 1, 1, 9), true},
		{"lines in", plot(), lines(row(1, 1, 1, 9), row(2, 2, 2, 6), row(7, 1, 9, 9)), true},
		{"lines, the last one in a hole", plot(), lines(row(1, 1, 1, 9), row(3, 3, 5, 5)), false},
		{"lines, the first one outside", plot(), lines(row(12, 1, 12, 9), row(1, 1, 1, 9)), false},
		{"lines, the last one leaves", plot(), lines(row(1, 1, 1, 9), row(9, 9, 9, 11)), false},
		{"lines, one through a hole", plot(), lines(row(1, 1, 1, 9), row(1, 3, 7, 3), row(7, 1, 9, 9)), false},
		{"from tip to tip", crown(), line(0, 6, 4, 6), false},
		{"from tip over a tip to a tip", crown(), line(0, 6, 8, 6), false},
		{"over the corners of both bays", crown(), line(1, 2, 7, 2), true},
		{"over the corners of both bays, from edge to edge", crown(), line(0, 2, 8, 2), true},
		{"between the corners of both bays", crown(), line(2, 2, 6, 2), true},
		{"leaves between two corners, above a bay's corner", crown(), line(0, 3, 8, 3), false},
		{"from edge to edge through a bay", crown(), line(1, 4, 3, 4), false},
		{"along a bay's edges", crown(), line(0, 6, 2, 2, 4, 6), true},
		{"along a bay's edge and on into the land", crown(), line(0, 6, 3, 0), true},
		{"along a bay's edge, from the land", crown(), line(1, 0, 4, 6), true},
		{"along a tip's edge and beyond", crown(), line(2, 2, 5, 8), false},
		{"straight up from a bay's corner", crown(), line(2, 0, 2, 4), false},
		{"up to a bay's corner", crown(), line(2, 0, 2, 2), true},
		{"down from a tip", crown(), line(4, 6, 4, 0), true},
		{"along sides that have corners on them", area(row(0, 0, 3, 0, 5, 0, 9, 0, 9, 4, 9, 9)), line(0, 0, 9, 0, 9, 9), true},
		{"from a corner on a side inwards", area(row(0, 0, 3, 0, 5, 0, 9, 0, 9, 4, 9, 9)), line(3, 0, 9, 4), true},
		{"from a corner on a side outwards", area(row(0, 0, 3, 0, 5, 0, 9, 0, 9, 4, 9, 9)), line(3, 0, 4, -1), false},
		{"out through a corner on a side", area(row(0, 0, 3, 0, 5, 0, 9, 0, 9, 4, 9, 9)), line(4, 1, 2, -1), false},
		{"steps, over their corners", area(row(0, 0, 2, 0, 2, 2, 4, 2, 4, 4, 6, 4, 6, 6, 0, 6)), line(2, 2, 6, 6), true},
		{"steps, below their corners", area(row(0, 0, 2, 0, 2, 2, 4, 2, 4, 4, 6, 4, 6, 6, 0, 6)), line(2, 0, 6, 4), false},
		{"between two holes that almost touch", area(square(0, 0, 9), row(1, 1, 1, 4, 4, 1), row(3, 4, 4, 4, 4, 3)), line(0, 6, 6, 0), true},
		{"all there is, from corner to corner", area(row(-most, -most, most, -most, most, most, -most, most)), line(-most, -most, most, most), true},
		{"a needle, along it", area(row(-most, -most, most, most-1, most, most)), line(-most, -most, most, most), true},
		{"a needle, along the other edge", area(row(-most, -most, most, most-1, most, most)), line(most, most-1, -most, -most), true},
		{"a needle, just beside it", area(row(-most, -most, most, most-1, most, most)), line(-most, -most, most, most-2), false},
		{"a rim of all there is", area(row(-most, -most, most, -most, most, most, -most, most), row(1-most, 1-most, 1-most, most-1, most-1, most-1, most-1, 1-most)), line(-most, 1-most, most, 1-most), true},
		{"a rim of all there is, its middle", area(row(-most, -most, most, -most, most, most, -most, most), row(1-most, 1-most, 1-most, most-1, most-1, most-1, most-1, 1-most)), line(-most, -most, most, most), false},
	} {
		if !good(c.a) || !good(c.s) {
			t.Fatal("the test itself is wrong:", c.what)
		}
		if got := impl.Covers(c.a, c.s); got != c.want {
			t.Error(c.what, "Covers:", got)
		}
		checkCover(t, c.a, c.s)
	}
}

// All segments of a small grid, both ways, against small areas.
func TestAllSmallLines(t *testing.T) {
	for i, s := range areasWithEdges() {
		t.Run(fmt.Sprint(i), func(t *testing.T) {
			t.Parallel()
			w := wantMeet{}
			seen := map[[2]bool]int{}
			for x := range 9 * 9 * 9 * 9 {
				p, q := pt(x%9, x/9%9), pt(x/81%9, x/729)
				if p.X > q.X || p.X == q.X && p.Y >= q.Y {
					continue
				}
				there, back := line(p.X, p.Y, q.X, q.Y), line(q.X, q.Y, p.X, p.Y)
				covers := checkCover(t, s, there)
				if impl.Covers(s, back) != covers {
					t.Fatal("Covers, the other way:", s, back, !covers)
				}
				seen[[2]bool{w.checkPair(t, s, there), covers}]++
			}
			if seen[[2]bool{true, true}] < 3 || seen[[2]bool{true, false}] < 3 {
				t.Error("the test itself is wrong:", seen)
			}
		})
	}
}

// All boxes of a small grid, those of one point or one segment too.
func TestAllBoxesAndSmallShapes(t *testing.T) {
	list := append(areasWithEdges(), point(4, 4), points(2, 3, 7, 7, 2, 6), line(0, 0, 8, 3), line(1, 8, 3, 1, 7, 5), lines(row(0, 4, 3, 4), row(6, 0, 5, 8)), area(square(2, 2, 5), hole(3, 3, 3)))
	for i, s := range list {
		t.Run(fmt.Sprint(i), func(t *testing.T) {
			t.Parallel()
			seen := map[bool]int{}
			for n := range 11 * 11 * 11 * 11 {
				b := box(n%11-1, n/11%11-1, n/121%11-1, n/1331-1)
				if impl.BoxOk(b) {
					seen[checkBox(t, s, b)]++
				}
			}
			if seen[true] < 100 || seen[false] < 100 {
				t.Error("the test itself is wrong:", seen)
			}
		})
	}
}

func TestMeetsBoxAndWithinBox(t *testing.T) {
	rim := area(row(-most, -most, most, -most, most, most, -most, most), row(1-most, 1-most, 1-most, most-1, most-1, most-1, most-1, 1-most))
	for _, c := range []struct {
		what          string
		s             impl.Shape
		b             impl.Box
		meets, within bool
	}{
		{"a point in", point(3, 3), box(1, 1, 5, 5), true, true},
		{"a point on a corner", point(5, 5), box(1, 1, 5, 5), true, true},
		{"a point on a side", point(1, 3), box(1, 1, 5, 5), true, true},
		{"a point beside", point(6, 3), box(1, 1, 5, 5), false, false},
		{"a point above", point(3, 6), box(1, 1, 5, 5), false, false},
		{"a point, the box it", point(3, 3), box(3, 3, 3, 3), true, true},
		{"points, one in", points(9, 9, 3, 3), box(1, 1, 5, 5), true, false},
		{"points, all in", points(1, 5, 3, 3), box(1, 1, 5, 5), true, true},
		{"points on both sides", points(0, 3, 6, 3, 3, 0, 3, 6), box(1, 1, 5, 5), false, false},
		{"a line in", line(2, 2, 3, 4), box(1, 1, 5, 5), true, true},
		{"a line from corner to corner", line(1, 1, 5, 5), box(1, 1, 5, 5), true, true},
		{"a line out", line(2, 2, 3, 6), box(1, 1, 5, 5), true, false},
		{"a line through", line(0, 3, 6, 4), box(1, 1, 5, 5), true, false},
		{"a line through between whole points", line(0, 0, 3, 1), box(1, 0, 2, 1), true, false},
		{"a line over a corner", line(3, 7, 7, 3), box(1, 1, 5, 5), true, false},
		{"a line past a corner", line(4, 7, 7, 4), box(1, 1, 5, 5), false, false},
		{"a line along a side", line(5, 0, 5, 9), box(1, 1, 5, 5), true, false},
		{"a line beside a side", line(6, 0, 6, 9), box(1, 1, 5, 5), false, false},
		{"a line around", line(0, 0, 6, 0, 6, 6, 0, 6, 0, 0), box(1, 1, 5, 5), false, false},
		{"a line that begins in it", line(3, 3, 9, 9, 9, 3), box(1, 1, 5, 5), true, false},
		{"a line, the box a point of it", line(0, 0, 8, 4), box(4, 2, 4, 2), true, false},
		{"a line, the box a point beside it", line(0, 0, 8, 4), box(4, 3, 4, 3), false, false},
		{"a line, the box a segment that crosses it", line(0, 0, 3, 1), box(1, 0, 1, 1), true, false},
		{"a line, the box a segment below it", line(0, 0, 3, 1), box(1, 0, 2, 0), false, false},
		{"a line, the box a segment along it", line(0, 3, 9, 3), box(4, 3, 6, 3), true, false},
		{"a line, the box is it", line(4, 3, 6, 3), box(4, 3, 6, 3), true, true},
		{"a line, the box is it, upwards", line(4, 6, 4, 3), box(4, 3, 4, 6), true, true},
		{"lines, one row in", lines(row(8, 8, 9, 9), row(2, 2, 3, 4)), box(1, 1, 5, 5), true, false},
		{"lines, both in", lines(row(1, 1, 5, 1), row(2, 2, 3, 4)), box(1, 1, 5, 5), true, true},
		{"lines on both sides", lines(row(0, 0, 0, 9), row(6, 0, 6, 9)), box(1, 1, 5, 5), false, false},
		{"an area, in its hole", plot(), box(3, 3, 5, 5), false, false},
		{"an area, in its hole up to an edge", plot(), box(3, 3, 6, 5), true, false},
		{"an area, in its hole up to a corner", plot(), box(2, 2, 3, 3), true, false},
		{"an area, just its hole", plot(), box(2, 2, 6, 6), true, false},
		{"an area, over its hole", plot(), box(1, 1, 7, 7), true, false},
		{"an area, in it", plot(), box(7, 7, 9, 9), true, false},
		{"an area, just around it", plot(), box(0, 0, 10, 10), true, true},
		{"an area, around all of it", plot(), box(-1, -1, 11, 11), true, true},
		{"an area, all but a side", plot(), box(0, 0, 10, 9), true, false},
		{"an area, at a corner", plot(), box(10, 10, 12, 12), true, false},
		{"an area, past a corner", plot(), box(11, 11, 12, 12), false, false},
		{"an area, along a side", plot(), box(10, 2, 12, 4), true, false},
		{"an area, beside a side", plot(), box(11, 2, 12, 4), false, false},
		{"an area, below", plot(), box(0, -3, 10, -1), false, false},
		{"an area, a point in its hole", plot(), box(4, 4, 4, 4), false, false},
		{"an area, a point on its hole's edge", plot(), box(2, 4, 2, 4), true, false},
		{"an area, a point in it", plot(), box(1, 4, 1, 4), true, false},
		{"an area, a segment in its hole", plot(), box(3, 4, 5, 4), false, false},
		{"an area, a segment up in its hole", plot(), box(4, 3, 4, 5), false, false},
		{"an area, a segment from its hole out", plot(), box(3, 4, 6, 4), true, false},
		{"an area, a segment in it", plot(), box(7, 1, 7, 9), true, false},
		{"an area, a segment through all of it", plot(), box(-3, 5, 13, 5), true, false},
		{"an area, a segment on its side's way", plot(), box(11, 0, 15, 0), false, false},
		{"a slope, beyond it", area(row(0, 0, 9, 0, 0, 9)), box(5, 5, 9, 9), false, false},
		{"a slope, up to it", area(row(0, 0, 9, 0, 0, 9)), box(4, 5, 9, 9), true, false},
		{"a slope between corners of the box", area(row(0, 0, 9, 0, 0, 9)), box(4, 4, 9, 9), true, false},
		{"a needle through it", area(row(0, 0, 9, 3, 9, 4)), box(4, 1, 5, 2), true, false},
		{"a bay, in it", crown(), box(1, 5, 3, 6), false, false},
		{"a bay, up to its edges", crown(), box(1, 4, 3, 6), true, false},
		{"all there is", area(rim.Rings[0]), world(), true, true},
		{"all there is, in it", area(rim.Rings[0]), box(1, 2, 3, 4), true, false},
		{"all there is, a corner of it", area(rim.Rings[0]), box(most, -most, most, -most), true, false},
		{"a rim of all there is", rim, box(2-most, 2-most, most-2, most-2), false, false},
		{"a rim of all there is, up to it", rim, box(2-most, 2-most, most-1, most-2), true, false},
		{"a rim of all there is, all", rim, world(), true, true},
		{"a rim of all there is, almost all", rim, box(-most, -most, most, most-1), true, false},
		{"a line through all there is", line(-most, -most, most, most-1), box(0, 0, 0, 0), false, false},
		{"a line through all there is, past 0, 0", line(-most, -most, most, most-1), box(0, -1, 0, 0), true, false},
	} {
		if got := impl.MeetsBox(c.s, c.b); got != c.meets {
			t.Error(c.what, "MeetsBox:", got)
		}
		if got := impl.WithinBox(c.s, c.b); got != c.within {
			t.Error(c.what, "WithinBox:", got)
		}
		checkBox(t, c.s, c.b)
	}
}

func (d *dice) near() impl.Pt { return pt(d.below(12)-1, d.below(12)-1) }

func (d *dice) nearRow(n int) []impl.Pt {
	var out []impl.Pt
	for range n {
		out = append(out, d.near())
	}
	return out
}

// nearArea is good; it has holes now and then, and most of its corners are close to others.
func (d *dice) nearArea() impl.Shape {
	var s impl.Shape
	for !good(s) {
		list := areasWithEdges()
		s = list[d.below(len(list))]
		if d.below(2) == 0 {
			s = area(d.smallRing(box(-1, -1, 10, 10), false))
		}
	}
	for range d.below(6) {
		x, y := d.below(9), d.below(9)
		more := cloned(s)
		more.Rings = append(more.Rings, d.smallRing(box(x, y, x+3, y+3), true))
		if good(more) {
			s = more
		}
	}
	return s
}

// nearShape is good, of the kind that is asked for, with points close to those of others.
func (d *dice) nearShape(kind int) impl.Shape {
	switch kind {
	case impl.ShapePoint:
		return shape(kind, d.nearRow(1))
	case impl.ShapePoints:
		return shape(kind, d.nearRow(1+d.below(6)))
	case impl.ShapeArea:
		return d.nearArea()
	}
	var s impl.Shape
	for !good(s) {
		s = shape(kind, d.nearRow(2+d.below(3)))
		for range d.below(3) {
			if kind == impl.ShapeLines {
				s.Rings = append(s.Rings, d.nearRow(2+d.below(3)))
			}
		}
	}
	return s
}

func TestNearShapesByChance(t *testing.T) {
	w := wantMeet{}
	d := &dice{62}
	seen := map[[3]int]int{}
	number := map[bool]int{true: 1}
	for range rounds {
		for _, a := range allKinds() {
			s, b := d.nearShape(a), impl.Box{Lo: d.near(), Hi: d.near()}
			checkPoint(t, s, d.near())
			if impl.BoxOk(b) {
				checkBox(t, s, b)
			}
			other := d.nearShape(1 + d.below(5))
			seen[[3]int{a, other.Kind, number[w.checkPair(t, s, other)]}]++
			if a == impl.ShapeArea && other.Kind != impl.ShapeArea {
				seen[[3]int{0, other.Kind, number[checkCover(t, s, other)]}]++
			}
		}
	}
	for _, a := range append(allKinds(), 0) {
		for _, b := range allKinds() {
			if a == 0 && b == impl.ShapeArea {
				continue
			}
			if seen[[3]int{a, b, 0}] < 1 || seen[[3]int{a, b, 1}] < 1 {
				t.Error("the test itself is wrong:", a, b, seen)
			}
		}
	}
}

// greatShape is good, with points as far out as may be, or anywhere.
func (d *dice) greatShape(kind int) impl.Shape {
	var s impl.Shape
	for !good(s) {
		f := d.four()
		switch kind {
		case impl.ShapePoint:
			s = shape(kind, f[:1])
		case impl.ShapeLines:
			s = shape(kind, f[:2], f[2:])
		case impl.ShapeArea:
			ring := f[:3]
			if impl.TwiceArea(ring) < 0 {
				ring = backward(ring)
			}
			s = shape(kind, ring)
			if all := area(row(-most, -most, most, -most, most, most, -most, most), backward(ring)); good(all) && d.below(2) == 0 {
				s = all
			}
		default:
			s = shape(kind, f[:2+d.below(3)])
		}
	}
	return s
}

// turnAbout is good or not, near or great, and of another kind from number to number.
func (d *dice) turnAbout(i int) impl.Shape {
	kind := 1 + i%5
	switch i % 3 {
	case 0:
		return d.nearShape(kind)
	case 1:
		return d.greatShape(kind)
	}
	return d.shape()
}

func TestGreatShapesByChance(t *testing.T) {
	w := wantMeet{}
	d := &dice{63}
	seen := map[bool]int{}
	for range rounds {
		for _, a := range allKinds() {
			s, other := d.greatShape(a), d.greatShape(1+d.below(5))
			if d.below(2) == 0 && len(other.Rings[0]) > 1 {
				// A point of the one is one of the other, so that they just touch.
				other.Rings[0][0] = s.Rings[0][0]
			}
			if !good(other) {
				continue
			}
			seen[w.checkPair(t, s, other)]++
			checkPoint(t, s, d.pt())
			checkPoint(t, s, other.Rings[0][0])
			checkBox(t, s, d.box())
			if a == impl.ShapeArea && other.Kind != impl.ShapeArea {
				checkCover(t, s, other)
			}
		}
	}
	if seen[true] < 500 || seen[false] < 500 {
		t.Error("the test itself is wrong:", seen)
	}
}

// Shapes at their limits, held against one another.
func TestShapesAtTheirLimits(t *testing.T) {
	greatest := area(append([][]impl.Pt{frame(impl.MaxRing)}, manyHoles(impl.MaxRings-1, impl.MaxRing)...)...)
	inHoles := lines()
	inLand := points()
	inLand.Rings = [][]impl.Pt{nil}
	for i := range impl.MaxRings - 1 {
		// Hole i is above a bow that begins at 100 i, 10 i; below it there is land.
		inHoles.Rings = append(inHoles.Rings, row(100*i+20, 10*i+401, 100*i+21, 10*i+442))
		inLand.Rings[0] = append(inLand.Rings[0], pt(100*i+20, 10*i+400), pt(100*i+20, 10*i+399))
	}
	for _, c := range []together{
		{"lines in all holes", greatest, inHoles, false},
		{"points below all holes", greatest, inLand, true},
		{"itself", greatest, greatest, true},
		{"as many lines as may be", greatest, lines(repeated(impl.MaxRings, bow(0, 0, impl.MaxRing))...), true},
		{"a line as long as may be, in the land", greatest, shape(impl.ShapeLine, bow(3000, 0, impl.MaxRing)), true},
		{"points, as many as may be, outside", greatest, shape(impl.ShapePoints, bow(8000, 0, impl.MaxRing)), false},
	} {
		if !good(c.a) || !good(c.b) {
			t.Fatal("the test itself is wrong:", c.what)
		}
		if impl.ShapesMeet(c.a, c.b) != c.want || impl.ShapesMeet(c.b, c.a) != c.want {
			t.Error(c.what, "ShapesMeet is not", c.want)
		}
		if c.b.Kind != impl.ShapeArea {
			if got := impl.Covers(c.a, c.b); got != c.want {
				t.Error(c.what, "Covers:", got)
			}
		}
	}
	for i, p := range inLand.Rings[0] {
		if got := impl.Locate(greatest, p); got != []int{impl.LocOn, impl.LocIn}[i%2] {
			t.Error("Locate:", p, got)
		}
	}
}

// wrongShapes are not good, each for a reason of its own, though many have right points.
func wrongShapes() map[string]impl.Shape {
	sq, h := square(0, 0, 20), hole(5, 5, 5)
	list := map[string]impl.Shape{
		"the zero shape":         {},
		"a point of two":         shape(impl.ShapePoint, row(0, 0, 3, 3)),
		"a point, two rows":      shape(impl.ShapePoint, row(0, 0), row(3, 3)),
		"points, two rows":       shape(impl.ShapePoints, row(0, 0), row(3, 3)),
		"points, too many":       shape(impl.ShapePoints, bow(0, 0, impl.MaxRing+1)),
		"points, none":           shape(impl.ShapePoints, nil),
		"a line of one":          line(0, 0),
		"a line, two rows":       shape(impl.ShapeLine, row(0, 0, 3, 3), row(4, 4, 5, 5)),
		"a line, alike":          line(0, 0, 3, 3, 3, 3),
		"a line, too long":       shape(impl.ShapeLine, bow(0, 0, impl.MaxRing+1)),
		"lines, too many":        lines(repeated(impl.MaxRings+1, row(0, 0, 3, 3))...),
		"lines, one of one":      lines(row(0, 0, 3, 3), row(4, 4)),
		"lines, alike":           lines(row(0, 0, 3, 3), row(4, 4, 4, 4)),
		"an area of two":         area(row(0, 0, 3, 3)),
		"an area that is closed": area(append(square(0, 0, 20), pt(0, 0))),
		"an area that crosses":   area(row(0, 0, 20, 20, 20, 0, 0, 20)),
		"an area that turns":     area(backward(sq)),
		"an area, no width":      area(row(0, 0, 5, 5, 9, 9)),
		"an area, no kind":       shape(6, sq),
		"an area, too many":      area(append([][]impl.Pt{frame(6)}, manyHoles(impl.MaxRings, 5)...)...),
	}
	for _, f := range wrongHoles() {
		list["a hole: "+f.what] = area(sq, h, f.s.Rings[0])
	}
	for i, w := range wrongPts() {
		if i%5 == 0 {
			list[fmt.Sprint("a point beyond: ", w)] = shape(impl.ShapePoint, []impl.Pt{w})
			list[fmt.Sprint("points, one beyond: ", w)] = shape(impl.ShapePoints, []impl.Pt{pt(0, 0), w, pt(3, 3)})
			list[fmt.Sprint("a line, one beyond: ", w)] = shape(impl.ShapeLine, []impl.Pt{pt(0, 0), pt(3, 3), w})
			list[fmt.Sprint("lines, one beyond: ", w)] = lines(row(0, 0, 3, 3), []impl.Pt{w, pt(3, 3)})
			list[fmt.Sprint("an area, one beyond: ", w)] = area([]impl.Pt{pt(0, 0), pt(3, 0), w})
		}
	}
	return list
}

// spoiltShapes are good ones of which one thing was made wrong, and others that are not good.
func spoiltShapes() []impl.Shape {
	list := []impl.Shape{{}, point(math.MaxInt, 0), point(0, math.MinInt), point(most+1, 0), point(0, -most-1), area(hole(0, 0, 9)), area(row(0, 0, 9, 9, 9, 0, 0, 9))}
	for _, s := range inOrder(goodShapes()) {
		for _, kind := range noKinds() {
			list = append(list, impl.Shape{Kind: kind, Rings: s.Rings})
		}
		list = append(list, impl.Shape{Kind: s.Kind}, impl.Shape{Kind: s.Kind, Rings: append(cloned(s).Rings, nil)})
		for _, wrong := range wrongPts() {
			bad := cloned(s)
			bad.Rings[len(bad.Rings)-1][0] = wrong
			list = append(list, bad)
		}
	}
	for _, kind := range allKinds() {
		list = append(list, shape(kind, nil), shape(kind, []impl.Pt{}), shape(kind, row(1, 2), nil))
	}
	return list
}

// somePoints are the right points of a shape, and others that lie in many of wrongShapes, or that what is wrong could be taken as.
func somePoints(s impl.Shape) []impl.Pt {
	list := row(0, 0, 1, 1, 3, 3, 7, 7, 12, 12, 15, 4, 4, 15, 5, 5, 0, 7)
	for _, row := range s.Rings {
		list = append(list, row[:min(3, len(row))]...)
	}
	return slices.DeleteFunc(list, func(p impl.Pt) bool { return !impl.PtOk(p) })
}

func TestWrongShapesHaveNoPoints(t *testing.T) {
	all := area(row(-most, -most, most, -most, most, most, -most, most))
	for what, w := range wrongShapes() {
		if good(w) {
			t.Error("the test itself is wrong:", what)
		}
		for _, p := range somePoints(w) {
			x, y := fracOf(t, p.X, 1), fracOf(t, p.Y, 1)
			if impl.Has(w, p) || impl.Locate(w, p) != impl.LocOut || impl.LocateFrac(w, x, y) != impl.LocOut {
				t.Error(what, "has", p)
			}
			checkNought(t, what, impl.Dist(w, p))
			if impl.MeetsBox(w, impl.Box{Lo: p, Hi: p}) || impl.WithinBox(w, impl.Box{Lo: p, Hi: p}) || impl.Covers(w, point(p.X, p.Y)) {
				t.Error(what, "has", p, "as a box, or a shape")
			}
			if impl.ShapesMeet(w, point(p.X, p.Y)) || impl.ShapesMeet(point(p.X, p.Y), w) {
				t.Error(what, "meets", p)
			}
		}
		if impl.MeetsBox(w, world()) || impl.WithinBox(w, world()) || impl.MeetsBox(w, box(0, 0, 30, 30)) || impl.WithinBox(w, box(-30, -30, 30, 30)) {
			t.Error(what, "and a box")
		}
		for other, s := range goodShapes() {
			if impl.ShapesMeet(w, s) || impl.ShapesMeet(s, w) || impl.Covers(w, s) || impl.Covers(s, w) {
				t.Error(what, "and", other)
			}
		}
		if impl.Covers(all, w) || impl.ShapesMeet(w, w) || impl.Covers(w, w) {
			t.Error(what, "and itself, or all")
		}
		for other, v := range wrongShapes() {
			if impl.ShapesMeet(w, v) || impl.Covers(w, v) {
				t.Error(what, "and", other)
			}
		}
	}
}

func TestWrongPointsAreNoShapes(t *testing.T) {
	for _, w := range wrongPts() {
		for what, s := range goodShapes() {
			if len(s.Rings) > 5 {
				continue
			}
			if impl.Has(s, w) || impl.Locate(s, w) != impl.LocOut {
				t.Error(what, "has", w)
			}
			checkNought(t, what, impl.Dist(s, w))
		}
		for what, s := range map[string]impl.Shape{"the zero shape": {}, "an area that turns": area(hole(-9, -9, 20)), "a point beyond": shape(impl.ShapePoint, []impl.Pt{w})} {
			if impl.Has(s, w) || impl.Locate(s, w) != impl.LocOut {
				t.Error(what, "has", w)
			}
			checkNought(t, what, impl.Dist(s, w))
		}
		around := area(row(-most, -most, most, -most, most, most, -most, most))
		if impl.Has(around, w) || impl.Locate(around, w) != impl.LocOut || impl.Has(point(0, 0), w) || impl.Locate(area(square(-5, -5, 10)), w) != impl.LocOut {
			t.Error("has", w)
		}
		checkNought(t, "far from 0, 0", impl.Dist(point(500, 700), w))
	}
}

func TestWrongBoxesAndShapes(t *testing.T) {
	list := []impl.Shape{area(row(-most, -most, most, -most, most, most, -most, most)), point(0, 0), points(0, 0, 3, 3, 5, 5, most, most), line(-most, 0, most, 0), lines(row(0, 0, 3, 1), row(2, -2, 2, 5)), plot(), {}, area(hole(0, 0, 10)), line(3, 3)}
	for _, b := range wrongBoxes() {
		for _, s := range list {
			if impl.MeetsBox(s, b) || impl.WithinBox(s, b) {
				t.Error("no box:", s, b)
			}
		}
	}
}

func TestWrongFracsAreNowhere(t *testing.T) {
	list := []impl.Shape{area(row(-most, -most, most, -most, most, most, -most, most)), area(square(-5, -5, 10)), area(row(0, 0, 9, 0, 0, 9)), {}, area(hole(-5, -5, 10)), point(0, 0)}
	for what, w := range wrongFracs() {
		for _, s := range list {
			for _, n := range []int{0, 1, 5} {
				right := fracOf(t, n, 1)
				if impl.LocateFrac(s, w, right) != impl.LocOut || impl.LocateFrac(s, right, w) != impl.LocOut || impl.LocateFrac(s, w, w) != impl.LocOut {
					t.Error(what, s, n)
				}
			}
		}
		for other, v := range wrongFracs() {
			if impl.LocateFrac(list[0], w, v) != impl.LocOut {
				t.Error(what, "and", other)
			}
		}
	}
}

// What is no area has no inside: neither where it lies, nor what it goes around.
func TestShapesThatAreNoAreas(t *testing.T) {
	around := line(0, 0, 20, 0, 20, 20, 0, 20, 0, 0)
	for what, s := range goodShapes() {
		for _, p := range somePoints(s) {
			x, y := fracOf(t, p.X, 1), fracOf(t, p.Y, 1)
			if s.Kind != impl.ShapeArea && (impl.Locate(s, p) != impl.LocOut || impl.LocateFrac(s, x, y) != impl.LocOut || impl.Covers(s, point(p.X, p.Y))) {
				t.Error(what, "is no area:", p)
			}
			if impl.Locate(around, p) != impl.LocOut || impl.LocateFrac(around, x, y) != impl.LocOut || impl.Covers(around, point(p.X, p.Y)) {
				t.Error("a line around is no area:", p)
			}
		}
		if s.Kind != impl.ShapeArea && impl.Covers(s, s) {
			t.Error(what, "is no area, and covers itself")
		}
		for other, a := range goodShapes() {
			if a.Kind == impl.ShapeArea && impl.Covers(s, a) {
				t.Error(what, "covers an area:", other)
			}
		}
	}
	if impl.Covers(area(square(0, 0, 20)), area(square(5, 5, 5))) || impl.Covers(plot(), plot()) {
		t.Error("an area is not what Covers asks of")
	}
}

// tellAll is what all calls answer, as a text.
func tellAll(a, b impl.Shape, p impl.Pt, x, y impl.Frac, in impl.Box) string {
	var text strings.Builder
	for _, s := range []impl.Shape{a, b} {
		fmt.Fprintln(&text, impl.Locate(s, p), impl.LocateFrac(s, x, y), impl.Has(s, p), impl.MeetsBox(s, in), impl.WithinBox(s, in), impl.FracText(impl.Dist(s, p)))
	}
	fmt.Fprintln(&text, impl.ShapesMeet(a, b), impl.ShapesMeet(b, a), impl.Covers(a, b), impl.Covers(b, a))
	return text.String()
}

// relateShapes are good ones of each kind, and some that are not.
func relateShapes() []impl.Shape {
	d := &dice{64}
	list := []impl.Shape{{}, plot(), crown(), line(0, 0, 5, 5, 5, 0), line(3, 3), area(hole(0, 0, 9)), point(4, 4), points(1, 1, 4, 4)}
	for _, kind := range allKinds() {
		for range 4 {
			list = append(list, d.nearShape(kind))
		}
	}
	for range 8 {
		list = append(list, d.shape())
	}
	return list
}

func TestRelateArgumentsStayAsTheyAre(t *testing.T) {
	d := &dice{65}
	list := relateShapes()
	for i, s := range list {
		for j, other := range list {
			odd := []impl.Pt{pt(5, 5), pt(most+1, 0), pt(math.MinInt, math.MaxInt)}[(i+j)%3]
			p, in := d.near(), box(1, 2, 3+d.below(5), 4)
			x, y := impl.Frac{N: impl.Of(d.below(99)), D: impl.Of(9)}, impl.Frac{N: impl.Mul(impl.Of(d.below(99)), powerOf(600)), D: impl.Mul(impl.Of(9), powerOf(600))}
			if j%9 == 0 {
				x = impl.Frac{N: full(impl.MaxLimbs+1, 1), D: impl.Of(0)}
			}
			a, memoryA, allA := roomyShape(s, odd)
			b, memoryB, allB := roomyShape(other, odd)
			u, roomU := roomyFrac(x)
			v, roomV := roomyFrac(y)
			_, keptU := roomyFrac(x)
			_, keptV := roomyFrac(y)
			pointsA, pointsB := slices.Clone(memoryA), slices.Clone(memoryB)
			rowsA, rowsB := cloned(impl.Shape{Rings: allA}), cloned(impl.Shape{Rings: allB})
			if tellAll(a, b, p, u, v, in) != tellAll(s, other, p, x, y, in) {
				t.Fatal("what lies behind is looked at:", s, other)
			}
			if !slices.Equal(memoryA, pointsA) || !slices.Equal(memoryB, pointsB) || !impl.SameShape(impl.Shape{Rings: allA}, rowsA) || !impl.SameShape(impl.Shape{Rings: allB}, rowsB) {
				t.Fatal("a shape was changed:", s, other)
			}
			for k := range 2 {
				if !slices.Equal(roomU[k], keptU[k]) || !slices.Equal(roomV[k], keptV[k]) {
					t.Fatal("a fraction was changed:", x, y)
				}
			}
		}
	}
}

// One shape may be both arguments, and two may share their rows.
func TestRelateArgumentsInOneMemory(t *testing.T) {
	s := plot()
	edge := impl.Shape{Kind: impl.ShapeLine, Rings: s.Rings[:1]}
	rim := impl.Shape{Kind: impl.ShapeLines, Rings: s.Rings}
	if !impl.ShapesMeet(s, s) || !impl.ShapesMeet(s, edge) || !impl.Covers(s, edge) || !impl.Covers(s, rim) || impl.Covers(s, s) {
		t.Error("in one memory")
	}
	half := impl.Of(2)
	x := impl.Frac{N: half, D: half}
	if impl.LocateFrac(s, x, x) != impl.LocIn || !impl.SameShape(s, plot()) || !sameNum(half, impl.Of(2)) {
		t.Error("fractions in one memory")
	}
}

func TestDistIsItsOwn(t *testing.T) {
	for _, s := range append(relateShapes(), line(0, 0, 3, 1), area(row(0, 0, 7, 2, 3, 7))) {
		for _, p := range append(somePoints(s), pt(-3, 5), pt(most, -most), pt(most+1, 0)) {
			given := cloned(s)
			// The text of each part: that of the whole would be the same of 0 through anything.
			parts := func(f impl.Frac) string { return impl.NumText(f.N) + " through " + impl.NumText(f.D) }
			want := parts(impl.Dist(s, p))
			check := func(what string, got impl.Frac) {
				t.Helper()
				if parts(got) != want || !impl.SameShape(given, s) {
					t.Fatal(what, s, p, got, "not", want)
				}
			}
			// Scribbling twice into one memory would undo it, so each answer is scribbled into once ahead of what is asked for.
			one, other := impl.Dist(given, p), impl.Dist(given, p)
			scribble(other.D)
			check("shares D with another answer:", one)
			scribble(other.N)
			check("shares N with another answer:", one)
			check("is another one later:", impl.Dist(given, p))
			n, d := impl.Dist(given, p), impl.Dist(given, p)
			scribble(n.D)
			check("N shares memory with D:", impl.Frac{N: n.N, D: d.D})
			scribble(d.N)
			check("D shares memory with N:", impl.Frac{N: impl.Dist(given, p).N, D: d.D})
		}
	}
}

// What was refused, or asked for ahead, leaves nothing behind.
func TestRelateCallsKeepNothing(t *testing.T) {
	list := relateShapes()
	x, y := fracOf(t, 7, 2), fracOf(t, 11, 3)
	var first []string
	for i, s := range list {
		first = append(first, tellAll(s, list[len(list)-1-i], pt(4, 3), x, y, box(2, 2, 4, 4)))
	}
	for i, s := range slices.Backward(list) {
		if tellAll(s, list[len(list)-1-i], pt(4, 3), x, y, box(2, 2, 4, 4)) != first[i] {
			t.Error("another answer later:", s)
		}
	}
}
