package tests

import (
	"math"
	"math/big"
	"slices"
	"testing"

	"loop.example/g00108/impl"
)

// row is of the points whose X and Y are told by turns.
func row(l ...int) []impl.Pt {
	var out []impl.Pt
	for i := 0; i < len(l); i += 2 {
		out = append(out, pt(l[i], l[i+1]))
	}
	return out
}

func shape(kind int, rows ...[]impl.Pt) impl.Shape { return impl.Shape{Kind: kind, Rings: rows} }

func area(rows ...[]impl.Pt) impl.Shape { return shape(impl.ShapeArea, rows...) }

func allKinds() []int {
	return []int{impl.ShapePoint, impl.ShapePoints, impl.ShapeLine, impl.ShapeLines, impl.ShapeArea}
}

func noKinds() []int {
	return []int{0, -1, 6, 7, 1 << 32, 1<<32 + impl.ShapePoint, -impl.ShapeArea, math.MaxInt, math.MinInt}
}

// square turns left, from its corner left below.
func square(x, y, side int) []impl.Pt { return row(x, y, x+side, y, x+side, y+side, x, y+side) }

// hole is a square that turns right, from the same corner.
func hole(x, y, side int) []impl.Pt { return row(x, y, x, y+side, x+side, y+side, x+side, y) }

func backward(ring []impl.Pt) []impl.Pt {
	out := slices.Clone(ring)
	slices.Reverse(out)
	return out
}

// from is the same ring, begun at another place.
func from(ring []impl.Pt, at int) []impl.Pt { return slices.Concat(ring[at:], ring[:at]) }

// bow has n points, on a curve that turns left all the way.
func bow(x, y, n int) []impl.Pt {
	var out []impl.Pt
	for i := range n {
		out = append(out, pt(x+i, y+i*i))
	}
	return out
}

// frame has n points, all but two of them on its lowest side; there is room in it from 0, 0 to 6000, 6000.
func frame(n int) []impl.Pt {
	var out []impl.Pt
	for i := range n - 3 {
		out = append(out, pt(i*100-100, -1))
	}
	return append(out, pt(7000, -1), pt(7000, 7000), pt(-100, 7000))
}

// manyHoles are in the frame, apart from one another, of n points each.
func manyHoles(count, n int) [][]impl.Pt {
	var out [][]impl.Pt
	for i := range count {
		out = append(out, backward(bow(100*i, 10*i, n)))
	}
	return out
}

// frameAnd is a frame of MaxRing points with so many holes, of n points each.
func frameAnd(count, n int) impl.Shape {
	return area(append([][]impl.Pt{frame(impl.MaxRing)}, manyHoles(count, n)...)...)
}

func repeated(n int, one []impl.Pt) [][]impl.Pt {
	var out [][]impl.Pt
	for range n {
		out = append(out, slices.Clone(one))
	}
	return out
}

// goodShapes are of each kind: the least, ordinary ones, and those at a limit.
func goodShapes() map[string]impl.Shape {
	s := map[string]impl.Shape{
		"a point":                     shape(impl.ShapePoint, row(3, -4)),
		"a point at nought":           shape(impl.ShapePoint, row(0, 0)),
		"a point at the end":          shape(impl.ShapePoint, row(most, -most)),
		"points, one":                 shape(impl.ShapePoints, row(1, 2)),
		"points, some":                shape(impl.ShapePoints, row(1, 2, -3, 4, 5, -6)),
		"points, alike":               shape(impl.ShapePoints, row(1, 2, 1, 2, 3, 3, 1, 2)),
		"points, as many as may be":   shape(impl.ShapePoints, bow(-30, -900, impl.MaxRing)),
		"points at the corners":       shape(impl.ShapePoints, row(most, most, -most, most, -most, -most, most, -most)),
		"a line, the least":           shape(impl.ShapeLine, row(1, 2, 1, 3)),
		"a line":                      shape(impl.ShapeLine, row(0, 0, 4, 1, 3, 7)),
		"a line that crosses itself":  shape(impl.ShapeLine, row(0, 0, 4, 4, 4, 0, 0, 4)),
		"a line there and back":       shape(impl.ShapeLine, row(0, 0, 5, 5, 0, 0, 5, 5)),
		"a line that ends where from": shape(impl.ShapeLine, row(0, 0, 5, 0, 5, 5, 0, 0)),
		"a line, as long as may be":   shape(impl.ShapeLine, bow(0, 0, impl.MaxRing)),
		"a line to the end":           shape(impl.ShapeLine, row(-most, -most, most, most, most, -most)),
		"lines, one":                  shape(impl.ShapeLines, row(1, 2, 3, 4)),
		"lines, some":                 shape(impl.ShapeLines, row(1, 2, 3, 4), row(7, 7, 8, 9, 7, 7), row(3, 4, 1, 2)),
		"lines, alike":                shape(impl.ShapeLines, row(1, 2, 3, 4), row(1, 2, 3, 4)),
		"lines, as many as may be":    shape(impl.ShapeLines, repeated(impl.MaxRings, bow(0, 0, impl.MaxRing))...),
		"an area, the least":          area(row(0, 0, 1, 0, 0, 1)),
		"an area":                     area(square(0, 0, 10)),
		"an area with bays":           area(row(0, 0, 9, 0, 9, 9, 6, 9, 6, 3, 3, 3, 3, 9, 0, 9)),
		"an area, points on its side": area(row(0, 0, 3, 0, 5, 0, 9, 0, 9, 4, 9, 9)),
		"an area, all there is":       area(row(-most, -most, most, -most, most, most, -most, most)),
		"an area, a needle":           area(row(-most, -most, most, most-1, most, most)),
		"an area, MaxRing points":     area(bow(-30, -900, impl.MaxRing)),
		"an area with a hole":         area(square(0, 0, 10), row(2, 2, 2, 4, 4, 2)),
		"an area with holes":          area(square(0, 0, 10), hole(1, 1, 2), hole(5, 1, 3), hole(1, 6, 2), hole(6, 6, 3)),
		"an area, almost all a hole":  area(square(0, 0, 10), hole(1, 1, 8)),
		"all but a hole":              area(row(-most, -most, most, -most, most, most, -most, most), row(1-most, 1-most, 1-most, most-1, most-1, most-1, most-1, 1-most)),
		"holes in bays of one":        area(square(0, 0, 10), row(1, 1, 1, 9, 2, 9, 2, 2, 8, 2, 8, 9, 9, 9, 9, 1), hole(4, 4, 2)),
		"an area, as great as may be": area(append([][]impl.Pt{frame(impl.MaxRing)}, manyHoles(impl.MaxRings-1, impl.MaxRing)...)...),
	}
	return s
}

// faulty is a shape and what Check answers of it.
type faulty struct {
	what             string
	s                impl.Shape
	code, row, place int
}

func checkFaults(t *testing.T, list []faulty) {
	t.Helper()
	for _, f := range list {
		if code, row, place := impl.Check(f.s); code != f.code || row != f.row || place != f.place {
			t.Errorf("%s: %d %d %d, not %d %d %d", f.what, code, row, place, f.code, f.row, f.place)
		}
		checkNotGood(t, f.what, f.s)
	}
}

// checkNotGood: what the other calls answer of a shape that is not good.
func checkNotGood(t *testing.T, what string, s impl.Shape) {
	t.Helper()
	if code, _, _ := impl.Check(s); code == impl.ShapeGood {
		t.Error(what, "is good")
	}
	if got := impl.ShapeBox(s); got != (impl.Box{}) {
		t.Error(what, "has a box:", got)
	}
	if got := impl.Segments(s); len(got) != 0 {
		t.Error(what, "has segments:", got)
	}
}

func TestShapeNumbers(t *testing.T) {
	if impl.MaxRing != 60 || impl.MaxRings != 12 {
		t.Error("the limits")
	}
	if !slices.Equal(allKinds(), []int{1, 2, 3, 4, 5}) {
		t.Error("the kinds")
	}
	if !slices.Equal([]int{impl.ShapeGood, impl.ShapeForm, impl.ShapeCross, impl.ShapeTurn, impl.ShapeHole, impl.ShapeNest}, []int{0, 1, 2, 3, 4, 5}) {
		t.Error("the codes")
	}
}

func TestGoodShapes(t *testing.T) {
	for what, s := range goodShapes() {
		if code, row, place := impl.Check(s); code != impl.ShapeGood || row != 0 || place != 0 {
			t.Errorf("%s is good: %d %d %d", what, code, row, place)
		}
	}
}

func TestFormOfKindsAndRows(t *testing.T) {
	one, two, three := row(1, 2), row(1, 2, 3, 4), square(0, 0, 10)
	checkFaults(t, []faulty{
		{"the zero shape", impl.Shape{}, impl.ShapeForm, 0, 0},
		{"a point, two rows", shape(impl.ShapePoint, one, one), impl.ShapeForm, 0, 0},
		{"points, two rows", shape(impl.ShapePoints, two, two), impl.ShapeForm, 0, 0},
		{"a line, two rows", shape(impl.ShapeLine, two, two), impl.ShapeForm, 0, 0},
		{"a point, MaxRings rows", shape(impl.ShapePoint, repeated(impl.MaxRings, one)...), impl.ShapeForm, 0, 0},
		{"points, MaxRings rows", shape(impl.ShapePoints, repeated(impl.MaxRings, two)...), impl.ShapeForm, 0, 0},
		{"a line, MaxRings rows", shape(impl.ShapeLine, repeated(impl.MaxRings, two)...), impl.ShapeForm, 0, 0},
		{"lines, a row too many", shape(impl.ShapeLines, repeated(impl.MaxRings+1, two)...), impl.ShapeForm, 0, 0},
		{"lines, far too many rows", shape(impl.ShapeLines, repeated(5000, two)...), impl.ShapeForm, 0, 0},
		{"an area, a row too many", area(append([][]impl.Pt{frame(6)}, manyHoles(impl.MaxRings, 5)...)...), impl.ShapeForm, 0, 0},
		{"an area, far too many rows", area(repeated(5000, three)...), impl.ShapeForm, 0, 0},
	})
	for _, kind := range noKinds() {
		checkFaults(t, []faulty{
			{"no kind, no rows", shape(kind), impl.ShapeForm, 0, 0},
			{"no kind, one point", shape(kind, one), impl.ShapeForm, 0, 0},
			{"no kind, a line", shape(kind, two), impl.ShapeForm, 0, 0},
			{"no kind, an area", shape(kind, three, hole(1, 1, 2)), impl.ShapeForm, 0, 0},
		})
	}
	for _, kind := range allKinds() {
		checkFaults(t, []faulty{
			{"no rows", impl.Shape{Kind: kind}, impl.ShapeForm, 0, 0},
			{"an empty list of rows", impl.Shape{Kind: kind, Rings: [][]impl.Pt{}}, impl.ShapeForm, 0, 0},
			{"an empty row", shape(kind, nil), impl.ShapeForm, 0, 0},
			{"an empty row that is not nil", shape(kind, []impl.Pt{}), impl.ShapeForm, 0, 0},
		})
	}
}

func TestFormOfHowManyPoints(t *testing.T) {
	long, tooLong := bow(0, 0, impl.MaxRing), bow(0, 0, impl.MaxRing+1)
	two, three := row(1, 2, 3, 4), square(0, 0, 10)
	checkFaults(t, []faulty{
		{"a point of two", shape(impl.ShapePoint, two), impl.ShapeForm, 0, 0},
		{"a point of two alike", shape(impl.ShapePoint, row(1, 2, 1, 2)), impl.ShapeForm, 0, 0},
		{"a point of MaxRing", shape(impl.ShapePoint, long), impl.ShapeForm, 0, 0},
		{"a point of one more", shape(impl.ShapePoint, tooLong), impl.ShapeForm, 0, 0},
		{"points, one too many", shape(impl.ShapePoints, tooLong), impl.ShapeForm, 0, 0},
		{"a line of one", shape(impl.ShapeLine, row(1, 2)), impl.ShapeForm, 0, 0},
		{"a line, one too many", shape(impl.ShapeLine, tooLong), impl.ShapeForm, 0, 0},
		{"a line, far too many", shape(impl.ShapeLine, bow(0, 0, 3000)), impl.ShapeForm, 0, 0},
		{"lines of one", shape(impl.ShapeLines, row(1, 2)), impl.ShapeForm, 0, 0},
		{"lines, the second of one", shape(impl.ShapeLines, two, row(1, 2), two), impl.ShapeForm, 1, 0},
		{"lines, the last of none", shape(impl.ShapeLines, two, two, nil), impl.ShapeForm, 2, 0},
		{"lines, the last one too long", shape(impl.ShapeLines, long, long, long, tooLong), impl.ShapeForm, 3, 0},
		{"an area of one", area(row(1, 2)), impl.ShapeForm, 0, 0},
		{"an area of two", area(two), impl.ShapeForm, 0, 0},
		{"an area, one too many", area(tooLong), impl.ShapeForm, 0, 0},
		{"a hole of none", area(three, nil), impl.ShapeForm, 1, 0},
		{"a hole of two", area(three, hole(1, 1, 2), two), impl.ShapeForm, 2, 0},
		{"a hole, one too many", area(append([][]impl.Pt{frame(6)}, manyHoles(2, impl.MaxRing+1)...)...), impl.ShapeForm, 1, 0},
	})
}

// Each place of each row, of each kind, has once each of the points that are none.
func TestFormOfWrongPoints(t *testing.T) {
	for what, s := range goodShapes() {
		for r := range s.Rings {
			for place := range s.Rings[r] {
				if len(s.Rings[r]) > 8 && place != 0 && place != impl.MaxRing-1 {
					continue
				}
				for _, w := range wrongPts() {
					bad := cloned(s)
					bad.Rings[r][place] = w
					if code, row, at := impl.Check(bad); code != impl.ShapeForm || row != r || at != place {
						t.Fatalf("%s, with %v: %d %d %d, not %d %d", what, w, code, row, at, r, place)
					}
					checkNotGood(t, what, bad)
				}
			}
		}
	}
}

// Each place of each row has once the point of the one ahead.
func TestFormOfNeighboursAlike(t *testing.T) {
	for what, s := range goodShapes() {
		for r := range s.Rings {
			n := len(s.Rings[r])
			for place := range n {
				same := cloned(s)
				same.Rings[r][place] = same.Rings[r][(place+n-1)%n]
				code, row, at := impl.Check(same)
				switch {
				case s.Kind <= impl.ShapePoints:
					if code != impl.ShapeGood || row != 0 || at != 0 {
						t.Error(what, "neighbours may be alike:", code, row, at)
					}
				case s.Kind == impl.ShapeArea || place > 0:
					if code != impl.ShapeForm || row != r || at != place {
						t.Error(what, r, place, "neighbours alike:", code, row, at)
					}
				case code == impl.ShapeForm && at == 0:
					t.Error(what, "a line may end where it began:", code, row, at)
				}
			}
		}
	}
	checkFaults(t, []faulty{
		{"a line of two alike", shape(impl.ShapeLine, row(3, 3, 3, 3)), impl.ShapeForm, 0, 1},
		{"a line, three alike", shape(impl.ShapeLine, row(1, 2, 3, 3, 3, 3, 3, 3)), impl.ShapeForm, 0, 2},
		{"an area, last and first alike", area(row(0, 0, 10, 0, 10, 10, 0, 0)), impl.ShapeForm, 0, 0},
		{"an area, all alike", area(row(1, 1, 1, 1, 1, 1)), impl.ShapeForm, 0, 0},
		{"an area there and back", area(row(0, 0, 5, 5, 0, 0)), impl.ShapeForm, 0, 0},
		{"a hole, last and first alike", area(square(0, 0, 10), row(1, 1, 1, 3, 3, 1, 1, 1)), impl.ShapeForm, 1, 0},
		{"alike at nought", area(row(1, 0, 0, 0, 0, 0, 0, 1)), impl.ShapeForm, 0, 2},
		{"two pairs alike", area(row(0, 0, 5, 0, 5, 0, 5, 5, 5, 5)), impl.ShapeForm, 0, 2},
	})
}

func TestCrossedRings(t *testing.T) {
	list := []faulty{
		{"two edges cross", area(row(0, 0, 4, 4, 4, 0, 0, 4)), impl.ShapeCross, 0, 0},
		{"the second and the last cross", area(row(0, 0, 4, 0, 0, 4, 4, 4)), impl.ShapeCross, 0, 1},
		{"the third one is the first that crosses", area(row(0, 0, 9, 0, 9, 3, 3, 6, 3, 3, 9, 6, 0, 9)), impl.ShapeCross, 0, 2},
		{"a corner on an earlier edge", area(row(0, 0, 9, 0, 9, 9, 4, 0, 0, 9)), impl.ShapeCross, 0, 0},
		{"a corner on a later edge", area(row(0, 0, 9, 0, 9, 9, 5, 5, 1, 9, 5, 1, 5, 8)), impl.ShapeCross, 0, 2},
		{"the first corner on a later edge", area(row(4, 0, 9, 9, 0, 9, 0, 0, 9, 0)), impl.ShapeCross, 0, 0},
		{"a corner twice", area(row(0, 0, 4, 0, 2, 2, 4, 4, 0, 4, 2, 2)), impl.ShapeCross, 0, 1},
		{"the first corner again", area(row(2, 2, 4, 0, 4, 4, 2, 2, 0, 4, 0, 0)), impl.ShapeCross, 0, 0},
		{"the last corner earlier", area(row(0, 0, 2, 2, 4, 0, 4, 4, 2, 2)), impl.ShapeCross, 0, 0},
		{"along an edge that is no neighbour", area(row(0, 0, 9, 0, 9, 3, 7, 0, 2, 0, 0, 3)), impl.ShapeCross, 0, 0},
		{"an edge there and back later", area(row(0, 0, 9, 0, 9, 9, 5, 9, 5, 5, 5, 9, 0, 9)), impl.ShapeCross, 0, 2},
		{"back over the neighbour", area(row(0, 0, 9, 0, 4, 0, 4, 9)), impl.ShapeCross, 0, 0},
		{"back over the neighbour and beyond", area(row(0, 0, 5, 0, -4, 0, -4, 9, 0, 9)), impl.ShapeCross, 0, 0},
		{"back over a later neighbour", area(row(0, 0, 9, 0, 9, 9, 9, 4, 0, 4)), impl.ShapeCross, 0, 1},
		{"back over just the same points", area(row(0, 0, 9, 0, 9, 9, 9, 0, 0, 9)), impl.ShapeCross, 0, 0},
		{"the last over the first", area(row(0, 0, 9, 0, 9, 9, 4, 9, 4, 0)), impl.ShapeCross, 0, 0},
		{"the last back over the first", area(row(0, 0, 4, 0, 4, 9, 9, 9, 9, 0)), impl.ShapeCross, 0, 0},
		{"the last back over the one ahead", area(row(0, 0, 9, 0, 9, 9, 0, 9, 0, -3)), impl.ShapeCross, 0, 0},
		{"the last but one and the last", area(row(4, 4, 9, 0, 9, 9, 0, 9, 0, 4, 6, 4)), impl.ShapeCross, 0, 0},
		{"on one way, there", area(row(0, 0, 4, 4, 9, 9)), impl.ShapeCross, 0, 0},
		{"on one way, back", area(row(0, 0, 9, 9, 4, 4)), impl.ShapeCross, 0, 0},
		{"on one way, from between", area(row(4, 4, 9, 9, 0, 0)), impl.ShapeCross, 0, 0},
		{"on one way, four", area(row(0, 0, 3, 0, 6, 0, 9, 0)), impl.ShapeCross, 0, 0},
		{"great ones cross", area(row(-most, -most, most, most, most, -most, -most, most)), impl.ShapeCross, 0, 0},
		{"great ones just touch", area(row(-most, -most, most, most, most-1, most, 0, 0, -most, most)), impl.ShapeCross, 0, 0},
		{"in a hole", area(square(0, 0, 10), row(2, 2, 6, 6, 6, 2, 2, 6)), impl.ShapeCross, 1, 0},
		{"in the second hole", area(square(0, 0, 20), hole(1, 1, 2), row(5, 5, 9, 5, 5, 9, 9, 9)), impl.ShapeCross, 2, 1},
		{"at a late place", area(append(bow(0, 0, 57), pt(-1, 4000), pt(-9, 3000), pt(60, 3500))), impl.ShapeCross, 0, 56},
	}
	checkFaults(t, list)
	// Whether an edge and another one have a point together does not hang on which way they go, or where the ring begins.
	for _, f := range list {
		ring := f.s.Rings[len(f.s.Rings)-1]
		for at := range ring {
			for _, other := range [][]impl.Pt{from(ring, at), backward(from(ring, at))} {
				if code, _, _ := impl.Check(area(other)); code != impl.ShapeCross {
					t.Error(f.what, other, code)
				}
			}
		}
	}
}

// Neighbours share just their end here; all but neighbours are apart.
func TestRingsThatAreNotCrossed(t *testing.T) {
	for _, ring := range [][]impl.Pt{
		square(0, 0, 1), row(0, 0, 1, 0, 0, 1), bow(0, 0, 4), frame(20),
		row(0, 0, 4, 0, 9, 0, 9, 9), row(0, 0, 9, 0, 1, 1, 0, 9),
		row(0, 0, 9, 0, 9, 1, 1, 1, 1, 9, 0, 9), row(0, 0, 9, 0, 9, 9, 0, 9, 0, 6, 6, 6, 6, 3, 0, 3),
		row(-most, -most, most, most-1, most, most), row(0, 0, most, most-1, most-1, most-1), row(0, 0, 1, 0, most, 1, most, 2),
		row(-most, -most, most, most, 0, 1, -1, 0),
	} {
		for at := range ring {
			if code, r, place := impl.Check(area(from(ring, at))); code != impl.ShapeGood || r != 0 || place != 0 {
				t.Error("is good:", from(ring, at), code, r, place)
			}
			if code, r, place := impl.Check(area(backward(from(ring, at)))); code != impl.ShapeTurn || r != 0 || place != 0 {
				t.Error("turns right:", from(ring, at), code, r, place)
			}
		}
	}
}

func TestTurnedRings(t *testing.T) {
	checkFaults(t, []faulty{
		{"turns right", area(row(0, 0, 0, 10, 10, 10, 10, 0)), impl.ShapeTurn, 0, 0},
		{"the least one", area(row(0, 0, 0, 1, 1, 0)), impl.ShapeTurn, 0, 0},
		{"all there is", area(row(-most, -most, -most, most, most, most, most, -most)), impl.ShapeTurn, 0, 0},
		{"a needle", area(row(-most, -most, most, most, most, most-1)), impl.ShapeTurn, 0, 0},
		{"MaxRing points", area(backward(bow(0, 0, impl.MaxRing))), impl.ShapeTurn, 0, 0},
		{"a hole that turns left", area(square(0, 0, 10), row(2, 2, 4, 2, 2, 4)), impl.ShapeTurn, 1, 0},
		{"the least hole", area(square(0, 0, 10), row(2, 2, 3, 2, 2, 3)), impl.ShapeTurn, 1, 0},
		{"the second hole", area(square(0, 0, 10), hole(1, 1, 2), square(5, 5, 2)), impl.ShapeTurn, 2, 0},
		{"the last of eleven", area(slices.Concat([][]impl.Pt{frame(6)}, manyHoles(10, 5), [][]impl.Pt{square(3000, 3000, 2)})...), impl.ShapeTurn, 11, 0},
		{"both the other way", area(hole(0, 0, 10), square(2, 2, 2)), impl.ShapeTurn, 0, 0},
	})
}

func TestHolesAndTheFirstRing(t *testing.T) {
	sq := square(0, 0, 10)
	bay := row(0, 0, 9, 0, 9, 9, 6, 9, 6, 3, 3, 3, 3, 9, 0, 9)
	checkFaults(t, []faulty{
		{"crosses it at the second edge", area(sq, row(2, 2, 2, 4, 12, 2)), impl.ShapeHole, 1, 1},
		{"crosses it at the first edge", area(sq, row(2, 2, 2, 12, 4, 2)), impl.ShapeHole, 1, 0},
		{"crosses it at the last edge", area(sq, row(-2, 3, 3, 5, 3, 1)), impl.ShapeHole, 1, 0},
		{"crosses it at the third edge", area(sq, row(2, 2, 2, 4, 4, 4, 14, 2)), impl.ShapeHole, 1, 2},
		{"touches it with its first corner", area(sq, row(0, 5, 3, 6, 3, 4)), impl.ShapeHole, 1, 0},
		{"touches it with its second corner", area(sq, row(5, 3, 5, 10, 6, 3)), impl.ShapeHole, 1, 0},
		{"touches it with its third corner", area(sq, row(5, 3, 5, 5, 10, 4)), impl.ShapeHole, 1, 1},
		{"touches its corner", area(sq, row(5, 5, 5, 6, 10, 10)), impl.ShapeHole, 1, 1},
		{"lies along its lowest side", area(sq, row(4, 4, 6, 0, 2, 0)), impl.ShapeHole, 1, 0},
		{"lies along its right side", area(sq, row(5, 5, 5, 6, 10, 7, 10, 3)), impl.ShapeHole, 1, 1},
		{"is just it", area(sq, backward(sq)), impl.ShapeHole, 1, 0},
		{"is touched by a corner of it", area(row(0, 0, 10, 0, 10, 10, 5, 6, 0, 10), row(2, 2, 5, 6, 8, 2)), impl.ShapeHole, 1, 0},
		{"is touched by a corner of it, between ends", area(row(0, 0, 10, 0, 10, 10, 5, 6, 0, 10), row(4, 3, 3, 6, 7, 6, 6, 3)), impl.ShapeHole, 1, 1},
		{"is crossed by a bay", area(bay, row(1, 1, 1, 5, 8, 5, 8, 1)), impl.ShapeHole, 1, 1},
		{"outside on the right", area(sq, row(12, 2, 12, 4, 14, 2)), impl.ShapeHole, 1, 0},
		{"outside on the left", area(sq, hole(-5, 2, 2)), impl.ShapeHole, 1, 0},
		{"outside above", area(sq, hole(2, 12, 2)), impl.ShapeHole, 1, 0},
		{"outside below", area(sq, hole(2, -5, 2)), impl.ShapeHole, 1, 0},
		{"outside, level with a side", area(sq, hole(-5, 0, 2)), impl.ShapeHole, 1, 0},
		{"outside, level with the side above", area(sq, hole(-5, 10, 2)), impl.ShapeHole, 1, 0},
		{"outside in a bay", area(bay, hole(4, 4, 1)), impl.ShapeHole, 1, 0},
		{"around it", area(sq, hole(-1, -1, 12)), impl.ShapeHole, 1, 0},
		{"outside at the end", area(sq, row(most-1, most-1, most-1, most, most, most)), impl.ShapeHole, 1, 0},
		{"the second one is outside", area(sq, hole(1, 1, 2), hole(12, 1, 2)), impl.ShapeHole, 2, 0},
		{"the third one touches it", area(sq, hole(1, 1, 2), hole(5, 5, 2), row(8, 8, 8, 9, 10, 9, 10, 8)), impl.ShapeHole, 3, 1},
		{"touches it at great ends", area(row(-most, -most, most, most-1, most, most), row(most-2, most-2, most-1, most-1, most-1, most-2)), impl.ShapeHole, 1, 0},
	})
}

func TestHolesAndEarlierOnes(t *testing.T) {
	sq := square(0, 0, 20)
	h := hole(5, 5, 5)
	checkFaults(t, []faulty{
		{"crosses it at the first edge", area(sq, h, row(1, 6, 7, 7, 1, 1)), impl.ShapeNest, 2, 0},
		{"crosses it at the second edge", area(sq, h, row(1, 1, 1, 9, 9, 7)), impl.ShapeNest, 2, 1},
		{"crosses it at the third edge", area(sq, h, row(1, 1, 1, 12, 4, 12, 12, 6)), impl.ShapeNest, 2, 2},
		{"crosses it from within", area(sq, h, row(6, 6, 6, 8, 14, 7)), impl.ShapeNest, 2, 1},
		{"touches it with its first corner", area(sq, h, row(10, 7, 12, 9, 12, 6)), impl.ShapeNest, 2, 0},
		{"touches it with its second corner", area(sq, h, row(12, 6, 10, 7, 12, 9)), impl.ShapeNest, 2, 0},
		{"touches it with its third corner", area(sq, h, row(12, 9, 12, 6, 10, 7)), impl.ShapeNest, 2, 1},
		{"touches its corner", area(sq, h, hole(10, 10, 2)), impl.ShapeNest, 2, 0},
		{"touches its corner with another one", area(sq, h, hole(3, 3, 2)), impl.ShapeNest, 2, 1},
		{"lies along its side", area(sq, h, hole(10, 6, 2)), impl.ShapeNest, 2, 0},
		{"lies along its side with another one", area(sq, h, hole(3, 6, 2)), impl.ShapeNest, 2, 1},
		{"lies along its side, within", area(sq, h, hole(5, 6, 2)), impl.ShapeNest, 2, 0},
		{"is just it", area(sq, h, h), impl.ShapeNest, 2, 0},
		{"is it, begun elsewhere", area(sq, h, from(h, 2)), impl.ShapeNest, 2, 0},
		{"lies in it", area(sq, h, hole(6, 6, 2)), impl.ShapeNest, 2, 0},
		{"has it in it", area(sq, h, hole(2, 2, 12)), impl.ShapeNest, 2, 0},
		{"lies in the first of two", area(sq, h, hole(14, 14, 3), hole(6, 6, 2)), impl.ShapeNest, 3, 0},
		{"lies in the second of two", area(sq, hole(14, 14, 3), h, hole(6, 6, 2)), impl.ShapeNest, 3, 0},
		{"has the first of two in it", area(sq, h, hole(16, 16, 3), hole(2, 2, 12)), impl.ShapeNest, 3, 0},
		{"has the second of two in it", area(sq, hole(16, 16, 3), h, hole(2, 2, 12)), impl.ShapeNest, 3, 0},
		{"has both in it", area(sq, h, hole(12, 12, 3), hole(2, 2, 15)), impl.ShapeNest, 3, 0},
		{"crosses the first of two", area(sq, h, hole(14, 14, 3), row(1, 1, 1, 9, 9, 7)), impl.ShapeNest, 3, 1},
		{"crosses the second of two", area(sq, hole(14, 14, 3), h, row(1, 1, 1, 9, 9, 7)), impl.ShapeNest, 3, 1},
		{"the last of eleven in the first one", area(slices.Concat([][]impl.Pt{frame(6)}, manyHoles(10, 6), [][]impl.Pt{backward(row(2, 8, 3, 10, 2, 9))})...), impl.ShapeNest, 11, 0},
	})
}

// Of several faults, in rows and rings of their own or in one, the one that the chapter names first.
func TestWhichFormFaultComesFirst(t *testing.T) {
	w := pt(most+1, 0)
	tooLong := bow(0, 0, impl.MaxRing+1)
	longWrong := slices.Clone(tooLong)
	longWrong[3], longWrong[5] = w, longWrong[4]
	checkFaults(t, []faulty{
		{"no kind, a wrong point", shape(0, []impl.Pt{pt(1, 2), w}), impl.ShapeForm, 0, 0},
		{"no kind, a short second row", shape(9, row(1, 2), nil), impl.ShapeForm, 0, 0},
		{"too many rows, the second too short", shape(impl.ShapeLines, append([][]impl.Pt{row(1, 2, 3, 4), nil}, repeated(impl.MaxRings, row(1, 2, 3, 4))...)...), impl.ShapeForm, 0, 0},
		{"too many rows, a wrong point", shape(impl.ShapeLines, append([][]impl.Pt{row(1, 2, 3, 4), {pt(1, 2), w}}, repeated(impl.MaxRings, row(1, 2, 3, 4))...)...), impl.ShapeForm, 0, 0},
		{"too many rows, alike", shape(impl.ShapeLines, append([][]impl.Pt{row(1, 2, 1, 2)}, repeated(impl.MaxRings, row(1, 2, 3, 4))...)...), impl.ShapeForm, 0, 0},
		{"two rows where one is told, a wrong point", shape(impl.ShapePoints, []impl.Pt{pt(1, 2), w}, row(1, 2)), impl.ShapeForm, 0, 0},
		{"two rows where one is told, the second empty", shape(impl.ShapePoint, row(1, 2), nil), impl.ShapeForm, 0, 0},
		{"two rows where one is told, alike", shape(impl.ShapeLine, row(1, 2, 3, 3, 3, 3), row(1, 2, 3, 4)), impl.ShapeForm, 0, 0},
		{"two points where one is told, one wrong", shape(impl.ShapePoint, []impl.Pt{pt(1, 2), w}), impl.ShapeForm, 0, 0},
		{"too few points, one wrong", area([]impl.Pt{pt(1, 2), w}), impl.ShapeForm, 0, 0},
		{"too few points in a hole, one wrong", area(square(0, 0, 10), []impl.Pt{pt(1, 2), w}), impl.ShapeForm, 1, 0},
		{"too many points, one wrong", shape(impl.ShapePoints, longWrong), impl.ShapeForm, 0, 0},
		{"too many points, two alike", area(square(0, 0, 10), longWrong), impl.ShapeForm, 1, 0},
		{"a wrong point, then alike", area([]impl.Pt{pt(0, 0), w, pt(5, 5), pt(5, 5)}), impl.ShapeForm, 0, 1},
		{"alike, then a wrong point", area([]impl.Pt{pt(0, 0), pt(5, 5), pt(5, 5), w}), impl.ShapeForm, 0, 2},
		{"the last and the first alike, then a wrong point", area([]impl.Pt{pt(0, 0), w, pt(5, 5), pt(0, 0)}), impl.ShapeForm, 0, 0},
		{"two wrong points alike", shape(impl.ShapeLine, []impl.Pt{pt(0, 0), w, w}), impl.ShapeForm, 0, 1},
		{"two wrong points", shape(impl.ShapePoints, []impl.Pt{pt(0, 0), pt(1, 1), w, w, pt(2, 2)}), impl.ShapeForm, 0, 2},
		{"wrong and alike at one place", shape(impl.ShapeLine, []impl.Pt{w, w}), impl.ShapeForm, 0, 0},
		{"a row with a wrong point, then one too short", shape(impl.ShapeLines, []impl.Pt{pt(0, 0), w}, row(1, 1)), impl.ShapeForm, 0, 1},
		{"a row with two alike, then one too long", shape(impl.ShapeLines, row(0, 0, 1, 1, 1, 1), tooLong), impl.ShapeForm, 0, 2},
		{"a row too short, then one with a wrong point", shape(impl.ShapeLines, row(4, 4, 5, 5), row(1, 1), []impl.Pt{w, pt(0, 0)}), impl.ShapeForm, 1, 0},
		{"a hole too long, then one with a wrong point", area(frame(6), tooLong, []impl.Pt{w, pt(0, 0), pt(1, 1)}), impl.ShapeForm, 1, 0},
		{"a wrong point in each row", shape(impl.ShapeLines, row(1, 1, 2, 2), []impl.Pt{pt(0, 0), pt(1, 1), w}, []impl.Pt{w, pt(0, 0)}), impl.ShapeForm, 1, 2},
	})
}

// Each of these is wrong as a hole of an area whose first ring is 0, 0 to 20, 20, with a hole from 5, 5 to 10, 10, in one way alone.
func wrongHoles() []faulty {
	wrong := func(ring []impl.Pt, at int, p impl.Pt) []impl.Pt {
		ring[at] = p
		return ring
	}
	return []faulty{
		{"too few points", area(row(1, 1, 1, 2)), impl.ShapeForm, 0, 0},
		{"too many points", area(backward(bow(0, 0, impl.MaxRing+1))), impl.ShapeForm, 0, 0},
		{"a wrong point", area(wrong(hole(12, 12, 3), 2, pt(0, -most-1))), impl.ShapeForm, 0, 2},
		{"neighbours alike", area(wrong(hole(12, 12, 3), 3, pt(15, 15))), impl.ShapeForm, 0, 3},
		{"crossed", area(row(12, 12, 12, 18, 18, 12, 18, 18, 15, 14, 15, 19)), impl.ShapeCross, 0, 1},
		{"turns left", area(square(12, 12, 3)), impl.ShapeTurn, 0, 0},
		{"crosses the first ring", area(row(12, 12, 12, 15, 22, 12)), impl.ShapeHole, 0, 1},
		{"outside of the first ring", area(hole(22, 12, 3)), impl.ShapeHole, 0, 0},
		{"crosses an earlier hole", area(row(1, 1, 1, 12, 4, 12, 12, 6)), impl.ShapeNest, 0, 2},
		{"in an earlier hole", area(hole(6, 6, 2)), impl.ShapeNest, 0, 0},
		{"around an earlier hole", area(hole(3, 3, 12)), impl.ShapeNest, 0, 0},
	}
}

// All pairs of two holes that are wrong, each in its way, in either order.
func TestWhichHoleComesFirst(t *testing.T) {
	sq, h := square(0, 0, 20), hole(5, 5, 5)
	var list []faulty
	for _, a := range wrongHoles() {
		list = append(list, faulty{a.what, area(sq, h, a.s.Rings[0]), a.code, 2, a.place})
		for _, b := range wrongHoles() {
			both := faulty{a.what + ", then: " + b.what, area(sq, h, a.s.Rings[0], b.s.Rings[0]), a.code, 2, a.place}
			if b.code == impl.ShapeForm && a.code != impl.ShapeForm {
				both.code, both.row, both.place = b.code, 3, b.place
			}
			list = append(list, both)
		}
		// And behind a first ring that is wrong.
		crossed, right := row(0, 0, 20, 0, 20, 20, 10, -1, 0, 20), backward(sq)
		if a.code == impl.ShapeForm {
			list = append(list, faulty{"crossed, then: " + a.what, area(crossed, h, a.s.Rings[0]), a.code, 2, a.place})
			list = append(list, faulty{"turns right, then: " + a.what, area(right, h, a.s.Rings[0]), a.code, 2, a.place})
		} else {
			list = append(list, faulty{"crossed, then: " + a.what, area(crossed, h, a.s.Rings[0]), impl.ShapeCross, 0, 0})
			list = append(list, faulty{"turns right, then: " + a.what, area(right, h, a.s.Rings[0]), impl.ShapeTurn, 0, 0})
		}
	}
	checkFaults(t, list)
}

// A hole that is wrong in each way, whose form, or that of the whole shape, is wrong as well.
func TestFormComesAheadOfAllElse(t *testing.T) {
	sq, h := square(0, 0, 20), hole(5, 5, 5)
	var list []faulty
	for _, a := range wrongHoles() {
		ring := a.s.Rings[0]
		list = append(list,
			faulty{"no kind, and: " + a.what, shape(0, sq, h, ring), impl.ShapeForm, 0, 0},
			faulty{"more rows than one, and: " + a.what, shape(impl.ShapeLine, sq, h, ring), impl.ShapeForm, 0, 0},
			faulty{"too many rows, and: " + a.what, area(append([][]impl.Pt{sq, h, ring}, repeated(impl.MaxRings-2, hole(1, 1, 2))...)...), impl.ShapeForm, 0, 0},
		)
		if a.code == impl.ShapeForm {
			continue
		}
		n := len(ring)
		list = append(list,
			faulty{"too few points, and: " + a.what, area(sq, h, ring[:2]), impl.ShapeForm, 2, 0},
			faulty{"too many points, and: " + a.what, area(sq, h, slices.Concat(repeated(impl.MaxRing/n+1, ring)...)), impl.ShapeForm, 2, 0},
			faulty{"a wrong point, and: " + a.what, area(sq, h, slices.Concat(ring, row(0, most+1))), impl.ShapeForm, 2, n},
			faulty{"neighbours alike, and: " + a.what, area(sq, h, slices.Concat(ring, ring[n-1:])), impl.ShapeForm, 2, n},
			faulty{"the last as the first, and: " + a.what, area(sq, h, slices.Concat(ring, ring[:1])), impl.ShapeForm, 2, 0},
		)
	}
	checkFaults(t, list)
}

// One ring that is wrong in two ways.
func TestWhichFaultOfARingComesFirst(t *testing.T) {
	sq, h := square(0, 0, 20), hole(5, 5, 5)
	checkFaults(t, []faulty{
		{"too few, and on one way", area(sq, h, row(30, 30, 31, 31)), impl.ShapeForm, 2, 0},
		{"too many, crossed and outside", area(sq, h, append(bow(30, 30, impl.MaxRing), pt(31, 500))), impl.ShapeForm, 2, 0},
		{"a wrong point, crossed", area(row(0, 0, 4, 4, 4, 0, 0, 4, -1, most+1)), impl.ShapeForm, 0, 4},
		{"neighbours alike, crossed", area(row(0, 0, 4, 4, 4, 0, 0, 4, 0, 4)), impl.ShapeForm, 0, 4},
		{"neighbours alike, turns right", area(row(0, 0, 0, 4, 4, 4, 4, 4, 4, 0)), impl.ShapeForm, 0, 3},
		{"neighbours alike, outside", area(sq, h, row(30, 30, 30, 34, 34, 34, 34, 34)), impl.ShapeForm, 2, 3},
		{"neighbours alike, in an earlier hole", area(sq, h, row(6, 6, 6, 8, 8, 8, 8, 8)), impl.ShapeForm, 2, 3},
		{"crossed twice", area(row(0, 0, 9, 0, 9, 9, 6, 9, 6, 5, 3, 8, 6, 8, 3, 5, 3, 9, 0, 9)), impl.ShapeCross, 0, 3},
		{"crossed, turns right", area(row(0, 0, 0, 9, 9, 9, 9, 0, 4, 0, 6, 3, 5, -1)), impl.ShapeCross, 0, 3},
		{"crossed, no area", area(row(0, 0, 4, 4, 4, 0, 0, 4)), impl.ShapeCross, 0, 0},
		{"crossed, turns left", area(sq, h, row(12, 12, 18, 12, 18, 18, 15, 11, 12, 18)), impl.ShapeCross, 2, 0},
		{"crossed, crosses the first ring", area(sq, h, row(25, 15, 12, 12, 12, 18, 18, 12, 18, 18, 14, 14)), impl.ShapeCross, 2, 0},
		{"crossed later, crosses the first ring", area(sq, h, row(25, 19, 18, 11, 12, 12, 16, 16, 12, 16, 16, 12)), impl.ShapeCross, 2, 2},
		{"crossed, outside", area(sq, h, row(30, 30, 31, 40, 40, 30, 40, 40)), impl.ShapeCross, 2, 1},
		{"crossed, crosses an earlier hole", area(sq, h, row(1, 1, 7, 7, 7, 1, 1, 7)), impl.ShapeCross, 2, 0},
		{"crossed, in an earlier hole", area(sq, h, row(6, 6, 6, 9, 9, 6, 9, 9)), impl.ShapeCross, 2, 1},
		{"crossed, around an earlier hole", area(sq, h, row(3, 3, 3, 15, 15, 15, 15, 3, 14, 3, 16, 4)), impl.ShapeCross, 2, 2},
		{"turns left, crosses the first ring", area(sq, h, row(12, 12, 15, 12, 22, 15)), impl.ShapeTurn, 2, 0},
		{"turns left, outside", area(sq, h, square(30, 30, 5)), impl.ShapeTurn, 2, 0},
		{"turns left, crosses an earlier hole", area(sq, h, row(1, 1, 12, 6, 4, 12, 1, 12)), impl.ShapeTurn, 2, 0},
		{"turns left, in an earlier hole", area(sq, h, square(6, 6, 2)), impl.ShapeTurn, 2, 0},
		{"turns left, around an earlier hole", area(sq, h, square(3, 3, 12)), impl.ShapeTurn, 2, 0},
		{"crosses the first ring twice", area(sq, h, row(12, 12, 12, 15, 22, 17, 22, 12)), impl.ShapeHole, 2, 1},
		{"crosses the first ring, begins outside", area(sq, h, row(22, 11, 21, 12, 18, 15, 22, 15)), impl.ShapeHole, 2, 1},
		{"crosses the first ring, and earlier an earlier hole", area(sq, h, row(8, 8, 12, 19, 15, 19, 22, 8)), impl.ShapeHole, 2, 2},
		{"crosses the first ring, begins in an earlier hole", area(sq, h, row(6, 8, 6, 9, 22, 9, 22, 8)), impl.ShapeHole, 2, 1},
		{"crosses the first ring, around an earlier hole", area(sq, h, row(3, 3, 3, 15, 22, 15, 22, 3)), impl.ShapeHole, 2, 1},
		{"outside, around all", area(sq, h, hole(-1, -1, 30)), impl.ShapeHole, 2, 0},
		{"crosses an earlier hole, begins in it", area(sq, h, row(6, 6, 6, 8, 14, 7)), impl.ShapeNest, 2, 1},
		{"crosses an earlier hole, which begins in it", area(sq, h, row(2, 2, 2, 12, 7, 7)), impl.ShapeNest, 2, 1},
		{"crosses the second hole, around the first", area(sq, h, hole(12, 12, 4), row(3, 3, 3, 11, 15, 14, 11, 3)), impl.ShapeNest, 3, 1},
		{"crosses the first hole, around the second", area(sq, hole(12, 12, 4), h, row(3, 3, 3, 11, 15, 14, 11, 3)), impl.ShapeNest, 3, 1},
		{"an earlier edge crosses the later hole", area(sq, h, hole(12, 12, 4), row(2, 11, 2, 14, 13, 14, 9, 9)), impl.ShapeNest, 3, 1},
		{"an earlier edge crosses the earlier hole", area(sq, hole(12, 12, 4), h, row(2, 11, 2, 14, 13, 14, 9, 9)), impl.ShapeNest, 3, 1},
	})
}

// wantMeet is Meet by the library's reckoning; what was asked already is not reckoned again.
type wantMeet map[[4]impl.Pt]int

func (w wantMeet) kind(a, b, c, d impl.Pt) int {
	key := [4]impl.Pt{a, b, c, d}
	kind, known := w[key]
	if !known {
		kind, _, _ = wantCross(a, b, c, d)
		w[key] = kind
	}
	return kind
}

// wantIn tells how often the ring goes around p, by the quarters in which its corners lie as seen from there.
func wantIn(ring []impl.Pt, p impl.Pt) bool {
	quarter := func(q impl.Pt) int {
		switch x, y := q.X-p.X, q.Y-p.Y; {
		case x > 0 && y >= 0:
			return 0
		case x <= 0 && y > 0:
			return 1
		case x < 0:
			return 2
		}
		return 3
	}
	around := 0
	for i, a := range ring {
		b := ring[(i+1)%len(ring)]
		switch (quarter(b) - quarter(a) + 4) % 4 {
		case 1:
			around++
		case 2:
			around += 2 * wantTurn(p, a, b)
		case 3:
			around--
		}
	}
	return around != 0
}

func wantTwice(ring []impl.Pt) *big.Int {
	twice := new(big.Int)
	part := func(n, m int) *big.Int { return new(big.Int).Mul(big.NewInt(int64(n)), big.NewInt(int64(m))) }
	for i, a := range ring {
		b := ring[(i+1)%len(ring)]
		twice.Add(twice, part(a.X, b.Y))
		twice.Sub(twice, part(b.X, a.Y))
	}
	return twice
}

// firstTogether is the first edge of one ring that has a point together with one of another.
func (w wantMeet) firstTogether(one, other []impl.Pt) int {
	for i := range one {
		for j := range other {
			if w.kind(one[i], one[(i+1)%len(one)], other[j], other[(j+1)%len(other)]) != impl.CrossNone {
				return i
			}
		}
	}
	return len(one)
}

func (w wantMeet) firstCrossed(ring []impl.Pt) int {
	n := len(ring)
	for i := range ring {
		for j := i + 1; j < n; j++ {
			kind := w.kind(ring[i], ring[(i+1)%n], ring[j], ring[(j+1)%n])
			neighbours := j == i+1 || i == 0 && j == n-1
			if kind == impl.CrossMany || kind == impl.CrossPoint && !neighbours {
				return i
			}
		}
	}
	return n
}

// areaFault is what Check tells of an area whose form is right, by the library's reckoning.
func (w wantMeet) areaFault(rings [][]impl.Pt) [3]int {
	for r, ring := range rings {
		if at := w.firstCrossed(ring); at < len(ring) {
			return [3]int{impl.ShapeCross, r, at}
		}
		if sign := wantTwice(ring).Sign(); r == 0 && sign <= 0 || r > 0 && sign >= 0 {
			return [3]int{impl.ShapeTurn, r, 0}
		}
		if r == 0 {
			continue
		}
		if at := w.firstTogether(ring, rings[0]); at < len(ring) {
			return [3]int{impl.ShapeHole, r, at}
		}
		if !wantIn(rings[0], ring[0]) {
			return [3]int{impl.ShapeHole, r, 0}
		}
		first, nested := len(ring), false
		for _, other := range rings[1:r] {
			first = min(first, w.firstTogether(ring, other))
			nested = nested || wantIn(other, ring[0]) || wantIn(ring, other[0])
		}
		if first < len(ring) {
			return [3]int{impl.ShapeNest, r, first}
		}
		if nested {
			return [3]int{impl.ShapeNest, r, 0}
		}
	}
	return [3]int{}
}

// formFault is what Check tells of a shape's form.
func formFault(s impl.Shape) [3]int {
	least := map[int]int{impl.ShapePoint: 1, impl.ShapePoints: 1, impl.ShapeLine: 2, impl.ShapeLines: 2, impl.ShapeArea: 3}
	rows := map[int]int{impl.ShapePoint: 1, impl.ShapePoints: 1, impl.ShapeLine: 1, impl.ShapeLines: 12, impl.ShapeArea: 12}
	if len(s.Rings) < 1 || len(s.Rings) > rows[s.Kind] {
		return [3]int{impl.ShapeForm, 0, 0}
	}
	for r, row := range s.Rings {
		n := len(row)
		if n < least[s.Kind] || n > 60 || s.Kind == impl.ShapePoint && n > 1 {
			return [3]int{impl.ShapeForm, r, 0}
		}
		for i, p := range row {
			apart := s.Kind == impl.ShapeArea || i > 0 && s.Kind > impl.ShapePoints
			if max(p.X, p.Y) > most || min(p.X, p.Y) < -most || apart && p == row[(i+n-1)%n] {
				return [3]int{impl.ShapeForm, r, i}
			}
		}
	}
	return [3]int{}
}

func (w wantMeet) fault(s impl.Shape) [3]int {
	f := formFault(s)
	if f[0] == impl.ShapeGood && s.Kind == impl.ShapeArea {
		return w.areaFault(s.Rings)
	}
	return f
}

// checkFault: Check answers what is wanted, and the other calls agree; it tells what was wanted.
func (w wantMeet) checkFault(t *testing.T, s impl.Shape) [3]int {
	t.Helper()
	want := w.fault(s)
	if code, row, place := impl.Check(s); want != [3]int{code, row, place} {
		t.Fatal("Check:", s, code, row, place, "not", want)
	}
	if want[0] != impl.ShapeGood {
		checkNotGood(t, "a shape", s)
	} else {
		checkGood(t, s)
	}
	return want
}

// checkGood: the box has all of it, and no more; rings turn as they must; its segments go from point to point.
func checkGood(t *testing.T, s impl.Shape) {
	t.Helper()
	b, segments := impl.ShapeBox(s), impl.Segments(s)
	var all []impl.Pt
	for r, row := range s.Rings {
		all = append(all, row...)
		if twice := impl.TwiceArea(row); s.Kind == impl.ShapeArea && (r == 0) != (twice > 0) || s.Kind == impl.ShapeArea && twice == 0 {
			t.Fatal("a ring turns as it must not:", s, r, twice)
		}
	}
	for _, p := range all {
		if !impl.InBox(b, p) {
			t.Fatal("not in the box:", s, b, p)
		}
	}
	if least, ok := impl.BoxOf(all); !ok || least != b {
		t.Fatal("not the least box:", s, b, least)
	}
	if !slices.Equal(segments, wantSegments(s)) {
		t.Fatal("segments:", s, segments)
	}
	for _, seg := range segments {
		if !impl.InBox(b, seg[0]) || !impl.InBox(b, seg[1]) || (seg[0] == seg[1]) != (s.Kind <= impl.ShapePoints) {
			t.Fatal("a segment:", s, seg)
		}
	}
}

func wantSegments(s impl.Shape) [][2]impl.Pt {
	var list [][2]impl.Pt
	for _, row := range s.Rings {
		for i, p := range row {
			switch {
			case s.Kind <= impl.ShapePoints:
				list = append(list, [2]impl.Pt{p, p})
			case i+1 < len(row):
				list = append(list, [2]impl.Pt{p, row[i+1]})
			case s.Kind == impl.ShapeArea:
				list = append(list, [2]impl.Pt{p, row[0]})
			}
		}
	}
	return list
}

// TestAllSmallRings holds Check against all rings of three, four and five points of a small grid.
func TestAllSmallRings(t *testing.T) {
	w := wantMeet{}
	seen := map[int]int{}
	nine := slices.DeleteFunc(grid(), func(p impl.Pt) bool { return p.X == -2 })
	for size, points := range map[int][]impl.Pt{3: grid(), 4: grid(), 5: nine} {
		count := 1
		for range size {
			count *= len(points)
		}
		for n := range count {
			ring := make([]impl.Pt, size)
			for i := range ring {
				ring[i] = points[n%len(points)]
				n /= len(points)
			}
			seen[w.checkFault(t, area(ring))[0]]++
		}
	}
	for code, few := range map[int]int{impl.ShapeGood: 4000, impl.ShapeForm: 20000, impl.ShapeCross: 20000, impl.ShapeTurn: 4000} {
		if seen[code] < few {
			t.Error("the test itself is wrong: too few of code", code, seen)
		}
	}
}

// A small hole at each place in, on and around rings of many corners: many of them are level with it.
func TestAHoleAtEachPlace(t *testing.T) {
	w := wantMeet{}
	seen := map[int]int{}
	for _, outer := range [][]impl.Pt{
		row(0, 0, 12, 0, 12, 12, 0, 12),
		row(0, 0, 12, 0, 8, 4, 12, 8, 8, 12, 4, 8, 0, 12, 4, 4),
		row(0, 0, 4, 4, 8, 0, 12, 4, 12, 12, 8, 8, 4, 8, 4, 12, 0, 8),
		row(0, 0, 12, 0, 12, 12, 8, 12, 8, 4, 4, 4, 4, 12, 0, 12),
		row(0, 4, 4, 0, 8, 0, 12, 4, 12, 8, 8, 12, 4, 12, 0, 8),
		row(0, 0, 16, 0, 16, 4, 4, 4, 4, 8, 16, 8, 16, 12, 0, 12),
		row(6, 0, 12, 6, 6, 12, 0, 6),
		row(0, 0, 3, 9, 6, 0, 9, 9, 12, 0, 12, 12, 0, 12),
	} {
		if impl.TwiceArea(outer) < 0 {
			t.Fatal("the test itself is wrong:", outer)
		}
		for x := -3; x <= 17; x++ {
			for y := -3; y <= 14; y++ {
				for at := range 3 {
					seen[w.checkFault(t, area(outer, from(row(x, y, x, y+1, x+1, y), at)))[0]]++
				}
			}
		}
	}
	if seen[impl.ShapeGood] < 500 || seen[impl.ShapeHole] < 500 || len(seen) != 2 {
		t.Error("the test itself is wrong:", seen)
	}
}

// smallRing has three to six corners within the box; mostly it turns as it must.
func (d *dice) smallRing(b impl.Box, right bool) []impl.Pt {
	var ring []impl.Pt
	for range 3 + max(0, d.below(8)-4) {
		ring = append(ring, pt(b.Lo.X+d.below(b.Hi.X-b.Lo.X+1), b.Lo.Y+d.below(b.Hi.Y-b.Lo.Y+1)))
	}
	if wantTwice(ring).Sign() > 0 == right && d.below(12) > 0 {
		slices.Reverse(ring)
	}
	return ring
}

// shape is of any kind, mostly an area with holes; what is wrong with it is up to chance.
func (d *dice) shape() impl.Shape {
	kind := impl.ShapeArea
	if d.below(8) == 0 {
		kind = d.below(7)
	}
	s := shape(kind, square(0, 0, 12))
	if d.below(3) == 0 {
		s.Rings[0] = d.smallRing(box(0, 0, 12, 12), false)
	}
	for range d.below(5) {
		x, y := d.below(8), d.below(8)
		s.Rings = append(s.Rings, d.smallRing(box(x, y, x+3+d.below(4), y+3+d.below(4)), true))
	}
	if d.below(10) == 0 {
		r := d.below(len(s.Rings))
		s.Rings[r] = s.Rings[r][:d.below(4)%(1+len(s.Rings[r]))]
	}
	if r := d.below(len(s.Rings)); len(s.Rings[r]) > 0 && d.below(20) == 0 {
		s.Rings[r][d.below(len(s.Rings[r]))] = wrongPts()[d.below(16)]
	}
	return s
}

func TestShapesByChance(t *testing.T) {
	d := &dice{51}
	w := wantMeet{}
	seen := map[[2]int]int{}
	for range 6 * rounds {
		s := d.shape()
		f := w.checkFault(t, s)
		seen[[2]int{f[0], min(f[2], 1)}]++
	}
	for _, want := range [][2]int{{impl.ShapeGood, 0}, {impl.ShapeForm, 0}, {impl.ShapeForm, 1}, {impl.ShapeCross, 0}, {impl.ShapeCross, 1}, {impl.ShapeTurn, 0}, {impl.ShapeHole, 0}, {impl.ShapeHole, 1}, {impl.ShapeNest, 0}, {impl.ShapeNest, 1}} {
		if seen[want] < 100 {
			t.Error("the test itself is wrong: too few of", want, seen)
		}
	}
}

// Rings whose corners are as far out as may be, so that what is reckoned is as great as it gets.
func TestGreatRingsByChance(t *testing.T) {
	d := &dice{52}
	w := wantMeet{}
	seen := map[int]int{}
	for range rounds {
		var ring []impl.Pt
		for range 3 + d.below(3) {
			ring = append(ring, d.pt())
		}
		a, b, c := d.pt(), d.pt(), d.pt()
		seen[w.checkFault(t, area(ring))[0]]++
		seen[w.checkFault(t, area(row(-most, -most, most, -most, most, most, -most, most), []impl.Pt{a, b, c}))[0]]++
	}
	for code := impl.ShapeGood; code <= impl.ShapeHole; code++ {
		if seen[code] < 30 {
			t.Error("the test itself is wrong: too few of code", code, seen)
		}
	}
}

// Wherever a ring begins, it is as good; turned around it is not.
func TestGoodAreasBegunElsewhere(t *testing.T) {
	for what, s := range goodShapes() {
		if s.Kind != impl.ShapeArea {
			continue
		}
		for r := range s.Rings {
			for at := range min(5, len(s.Rings[r])) {
				other := cloned(s)
				other.Rings[r] = from(other.Rings[r], at)
				checkGood(t, other)
				if code, row, place := impl.Check(other); code != impl.ShapeGood || row != 0 || place != 0 {
					t.Error(what, r, at, code, row, place)
				}
				slices.Reverse(other.Rings[r])
				if code, row, place := impl.Check(other); code != impl.ShapeTurn || row != r || place != 0 {
					t.Error(what, "turned around:", r, at, code, row, place)
				}
			}
		}
	}
}

func TestTwiceArea(t *testing.T) {
	for _, c := range []struct {
		ring []impl.Pt
		want int
	}{
		{nil, 0}, {[]impl.Pt{}, 0}, {row(3, 4), 0}, {row(3, 4, 7, -1), 0}, {row(3, 4, 7, -1, 3, 4), 0}, {row(5, 5, 5, 5, 5, 5), 0},
		{row(0, 0, 1, 0, 0, 1), 1}, {row(0, 0, 0, 1, 1, 0), -1}, {square(0, 0, 10), 200}, {hole(0, 0, 10), -200}, {square(-7, 3, 5), 50}, {square(-70, -30, 5), 50},
		{row(0, 0, 4, 0, 9, 0, 9, 9), 81}, {row(0, 0, 4, 4, 9, 9), 0}, {row(0, 0, 4, 4, 4, 0, 0, 4), 0}, {row(0, 0, 4, 0, 4, 0, 4, 4), 16}, {row(1, 2, 5, 3, 2, 8), 23},
		{slices.Concat(square(0, 0, 10), square(0, 0, 10)), 400}, {slices.Concat(square(0, 0, 10), hole(0, 0, 10)), 0},
		{row(0, 0, 9, 0, 9, 9, 6, 9, 6, 3, 3, 3, 3, 9, 0, 9), 126},
		{row(-most, -most, most, -most, most, most, -most, most), 800000000000000}, {row(-most, -most, -most, most, most, most, most, -most), -800000000000000}, {row(-most, -most, most, most-1, most, most), 20000000},
		{slices.Concat(repeated(impl.MaxRing/4, row(-most, -most, most, -most, most, most, -most, most))...), 12000000000000000},
		{slices.Concat(repeated(impl.MaxRing/4, row(-most, -most, -most, most, most, most, most, -most))...), -12000000000000000},
		{frame(impl.MaxRing), 2 * 7100 * 7001},
	} {
		if got := impl.TwiceArea(c.ring); got != c.want {
			t.Error("TwiceArea:", c.ring, got, "not", c.want)
		}
	}
	d := &dice{53}
	for range rounds {
		var ring []impl.Pt
		for range d.below(impl.MaxRing + 1) {
			ring = append(ring, d.pt())
		}
		got := impl.TwiceArea(ring)
		if wantTwice(ring).Cmp(big.NewInt(int64(got))) != 0 {
			t.Error("TwiceArea:", ring, got)
		}
		if len(ring) > 0 && impl.TwiceArea(from(ring, d.below(len(ring)))) != got || impl.TwiceArea(backward(ring)) != -got {
			t.Error("TwiceArea, begun elsewhere or turned around:", ring)
		}
	}
}

func TestTwiceAreaOfWrongRings(t *testing.T) {
	for _, n := range []int{impl.MaxRing + 1, impl.MaxRing + 2, 4 * impl.MaxRing, 3000} {
		if got := impl.TwiceArea(bow(0, 0, n)); got != 0 {
			t.Error("too many points:", n, got)
		}
	}
	if impl.TwiceArea(bow(0, 0, impl.MaxRing)) <= 0 || impl.TwiceArea(frame(impl.MaxRing+1)) != 0 {
		t.Error("MaxRing points, and one more")
	}
	for _, w := range wrongPts() {
		for at := range 4 {
			ring := square(2, 3, 10)
			ring[at] = w
			if got := impl.TwiceArea(ring); got != 0 {
				t.Error("a point that is none:", ring, got)
			}
		}
		if impl.TwiceArea([]impl.Pt{w}) != 0 || impl.TwiceArea([]impl.Pt{w, w}) != 0 {
			t.Error("points that are none alone:", w)
		}
		long := bow(0, 0, impl.MaxRing)
		long[impl.MaxRing-1] = w
		if impl.TwiceArea(long) != 0 {
			t.Error("the last one is none:", w)
		}
	}
}

func TestShapeBox(t *testing.T) {
	for _, c := range []struct {
		s    impl.Shape
		want impl.Box
	}{
		{shape(impl.ShapePoint, row(3, -4)), box(3, -4, 3, -4)},
		{shape(impl.ShapePoint, row(-most, most)), box(-most, most, -most, most)},
		{shape(impl.ShapePoints, row(1, 2, -3, 4, 5, -6)), box(-3, -6, 5, 4)},
		{shape(impl.ShapePoints, row(7, 8, 7, 8)), box(7, 8, 7, 8)},
		{shape(impl.ShapeLine, row(4, 1, 3, 7)), box(3, 1, 4, 7)},
		{shape(impl.ShapeLine, row(-4, -1, -3, -7, -9, -5)), box(-9, -7, -3, -1)},
		{shape(impl.ShapeLines, row(1, 2, 3, 4), row(7, 7, 8, 9)), box(1, 2, 8, 9)},
		{shape(impl.ShapeLines, row(1, 2, 3, 4), row(0, 3, 2, 3), row(2, 0, 2, 9)), box(0, 0, 3, 9)},
		{area(row(2, 1, 9, 3, 4, 8)), box(2, 1, 9, 8)},
		{area(square(0, 0, 10), hole(1, 1, 2), hole(5, 5, 2)), box(0, 0, 10, 10)},
		{area(row(-most, -most, most, -most, most, most, -most, most)), world()},
	} {
		if got := impl.ShapeBox(c.s); got != c.want {
			t.Error("ShapeBox:", c.s, got)
		}
	}
	for what, s := range goodShapes() {
		t.Log(what)
		checkGood(t, s)
	}
}

func TestSegments(t *testing.T) {
	for _, c := range []struct {
		s    impl.Shape
		want []impl.Pt
	}{
		{shape(impl.ShapePoint, row(3, -4)), row(3, -4, 3, -4)},
		{shape(impl.ShapePoints, row(1, 2)), row(1, 2, 1, 2)},
		{shape(impl.ShapePoints, row(1, 2, 3, 4, 1, 2)), row(1, 2, 1, 2, 3, 4, 3, 4, 1, 2, 1, 2)},
		{shape(impl.ShapeLine, row(1, 2, 3, 4)), row(1, 2, 3, 4)},
		{shape(impl.ShapeLine, row(1, 2, 3, 4, 9, 8, 1, 2)), row(1, 2, 3, 4, 3, 4, 9, 8, 9, 8, 1, 2)},
		{shape(impl.ShapeLines, row(1, 2, 3, 4)), row(1, 2, 3, 4)},
		{shape(impl.ShapeLines, row(1, 2, 3, 4), row(7, 7, 8, 9, 6, 5), row(3, 4, 1, 2)), row(1, 2, 3, 4, 7, 7, 8, 9, 8, 9, 6, 5, 3, 4, 1, 2)},
		{area(row(0, 0, 2, 0, 0, 2)), row(0, 0, 2, 0, 2, 0, 0, 2, 0, 2, 0, 0)},
		{area(square(0, 0, 9), row(1, 1, 1, 3, 3, 1)), row(0, 0, 9, 0, 9, 0, 9, 9, 9, 9, 0, 9, 0, 9, 0, 0, 1, 1, 1, 3, 1, 3, 3, 1, 3, 1, 1, 1)},
	} {
		var got []impl.Pt
		for _, seg := range impl.Segments(c.s) {
			got = append(got, seg[0], seg[1])
		}
		if !slices.Equal(got, c.want) {
			t.Error("Segments:", c.s, got)
		}
	}
	most := area(append([][]impl.Pt{frame(impl.MaxRing)}, manyHoles(impl.MaxRings-1, impl.MaxRing)...)...)
	if got := len(impl.Segments(most)); got != 720 {
		t.Error("Segments of as many as may be:", got)
	}
}

func TestSameShape(t *testing.T) {
	list := []impl.Shape{
		{}, shape(0, row(1, 2)), shape(-1), shape(9, row(1, 2)), shape(impl.ShapePoint), shape(impl.ShapePoints), shape(impl.ShapeArea), shape(impl.ShapePoint, nil), shape(impl.ShapePoint, nil, nil), shape(impl.ShapeLines, nil, row(1, 2)), shape(impl.ShapeLines, row(1, 2), nil),
		shape(impl.ShapePoint, row(1, 2)), shape(impl.ShapePoint, row(2, 1)), shape(impl.ShapePoint, row(1, 3)), shape(impl.ShapePoint, row(0, 2)), shape(impl.ShapePoints, row(1, 2)), shape(impl.ShapePoints, row(1, 2, 1, 2)), shape(impl.ShapePoints, row(1, 2, 3, 4)), shape(impl.ShapePoints, row(3, 4, 1, 2)),
		shape(impl.ShapeLine, row(1, 2, 3, 4)), shape(impl.ShapeLine, row(3, 4, 1, 2)), shape(impl.ShapeLines, row(1, 2, 3, 4)), shape(impl.ShapeLines, row(1, 2, 3, 4), row(1, 2, 3, 4)), shape(impl.ShapeLines, row(1, 2), row(3, 4)), shape(impl.ShapeLines, row(1, 2, 3, 4), row(1, 2)), shape(impl.ShapeLines, row(1, 2), row(1, 2, 3, 4)),
		area(square(0, 0, 9)), area(from(square(0, 0, 9), 1)), area(hole(0, 0, 9)), area(square(0, 0, 9), hole(1, 1, 2)), area(square(0, 0, 9), hole(1, 1, 2), hole(5, 5, 2)), area(square(0, 0, 9), hole(5, 5, 2), hole(1, 1, 2)), area(square(0, 0, 9)[:3]), area(row(0, 0, 9, 0, 9, 9, 0, 9, 0, 0)),
		area(row(math.MaxInt, 0, 9, 0, 9, 9)), area(row(math.MinInt, 0, 9, 0, 9, 9)), area(row(0, math.MaxInt, 9, 0, 9, 9)), area(row(most+1, 0, 9, 0, 9, 9)), shape(impl.ShapeLine, bow(0, 0, 61)), shape(impl.ShapeLine, bow(0, 0, 62)), shape(impl.ShapeLines, repeated(13, row(1, 2, 3, 4))...), shape(impl.ShapeLines, repeated(14, row(1, 2, 3, 4))...),
	}
	for i, a := range list {
		for j, b := range list {
			if impl.SameShape(a, cloned(b)) != (i == j) {
				t.Error("SameShape is not", i == j, a, b)
			}
		}
	}
	for _, c := range [][2]impl.Shape{
		{{}, {Rings: [][]impl.Pt{}}}, {{Kind: 3}, {Kind: 3, Rings: make([][]impl.Pt, 0, 5)}}, {shape(2, nil), shape(2, []impl.Pt{})}, {shape(4, nil, row(1, 2)), shape(4, make([]impl.Pt, 0, 7), row(1, 2))},
	} {
		if !impl.SameShape(c[0], c[1]) || !impl.SameShape(c[1], c[0]) {
			t.Error("an empty list and nil are the same:", c)
		}
	}
}

// One point, or the kind, or a row that is another one: and it is another shape.
func TestShapesThatAlmostAreTheSame(t *testing.T) {
	for what, s := range inOrder(goodShapes()) {
		if !impl.SameShape(s, s) || !impl.SameShape(s, cloned(s)) {
			t.Error(what, "is not itself")
		}
		differ := func(change func(*impl.Shape)) {
			t.Helper()
			other := cloned(s)
			change(&other)
			if impl.SameShape(s, other) || impl.SameShape(other, s) {
				t.Error(what, "is the same as", other)
			}
		}
		for _, kind := range append(allKinds(), noKinds()...) {
			if kind != s.Kind {
				differ(func(o *impl.Shape) { o.Kind = kind })
			}
		}
		differ(func(o *impl.Shape) { o.Rings = append(o.Rings, nil) })
		differ(func(o *impl.Shape) { o.Rings = o.Rings[1:] })
		differ(func(o *impl.Shape) { o.Rings = nil })
		for r := range s.Rings {
			last := len(s.Rings[r]) - 1
			differ(func(o *impl.Shape) { o.Rings[r] = o.Rings[r][:last] })
			differ(func(o *impl.Shape) { o.Rings[r] = append(o.Rings[r], o.Rings[r][last]) })
			for place := range s.Rings[r] {
				differ(func(o *impl.Shape) { o.Rings[r][place].X++ })
				differ(func(o *impl.Shape) { o.Rings[r][place].Y-- })
			}
		}
	}
}

func cloned(s impl.Shape) impl.Shape {
	out := impl.Shape{Kind: s.Kind}
	for _, row := range s.Rings {
		out.Rings = append(out.Rings, slices.Clone(row))
	}
	return out
}

// roomyShape is the same shape, all of whose rows lie in one memory: behind each of them, and behind the list of rows, there is room with something in it. It tells that memory, and the list with what is behind it.
func roomyShape(s impl.Shape, odd impl.Pt) (impl.Shape, []impl.Pt, [][]impl.Pt) {
	var memory []impl.Pt
	for _, row := range s.Rings {
		memory = append(slices.Concat(memory, row), odd, pt(1, 1), odd)
	}
	var all [][]impl.Pt
	at := 0
	for _, row := range s.Rings {
		all = append(all, memory[at:at+len(row)])
		at += len(row) + 3
	}
	all = append(all, []impl.Pt{odd}, nil, []impl.Pt{pt(1, 1)})
	return impl.Shape{Kind: s.Kind, Rings: all[:len(s.Rings)]}, memory, all
}

// shapesForMemory are good ones, and some with each fault.
func shapesForMemory() []impl.Shape {
	d := &dice{54}
	var list []impl.Shape
	for _, s := range inOrder(goodShapes()) {
		list = append(list, s)
	}
	for range 300 {
		list = append(list, d.shape())
	}
	return append(list, impl.Shape{}, shape(impl.ShapeLines, repeated(13, row(1, 2, 3, 4))...))
}

func TestShapesStayAsTheyAre(t *testing.T) {
	for _, odd := range []impl.Pt{pt(5, 5), pt(most+1, 0), pt(math.MinInt, math.MaxInt)} {
		for _, s := range shapesForMemory() {
			roomy, memory, all := roomyShape(s, odd)
			points, rows := slices.Clone(memory), cloned(impl.Shape{Rings: all})
			code, r, place := impl.Check(roomy)
			wantCode, wantRow, wantPlace := impl.Check(s)
			if code != wantCode || r != wantRow || place != wantPlace || impl.ShapeBox(roomy) != impl.ShapeBox(s) || !slices.Equal(impl.Segments(roomy), impl.Segments(s)) || !impl.SameShape(roomy, s) || !impl.SameShape(s, roomy) {
				t.Fatal("what lies behind is looked at:", s)
			}
			for i, row := range roomy.Rings {
				if impl.TwiceArea(row) != impl.TwiceArea(s.Rings[i]) {
					t.Fatal("what lies behind a row is looked at:", s, i)
				}
			}
			if !slices.Equal(memory, points) || !impl.SameShape(impl.Shape{Rings: all}, rows) || len(roomy.Rings) != len(s.Rings) || roomy.Kind != s.Kind {
				t.Fatal("a shape was changed:", s, roomy)
			}
		}
	}
}

func TestSegmentsAreTheirOwn(t *testing.T) {
	for _, s := range shapesForMemory() {
		given := cloned(s)
		first, second := impl.Segments(given), impl.Segments(given)
		before := slices.Clone(second)
		first = first[:cap(first)]
		for i := range first {
			first[i] = [2]impl.Pt{pt(-77, 77), pt(77, -77)}
		}
		if !impl.SameShape(given, s) || !slices.Equal(second, before) || !slices.Equal(impl.Segments(given), before) {
			t.Fatal("an answer shares memory:", s)
		}
		for _, row := range given.Rings {
			for i := range row {
				row[i] = pt(55, -55)
			}
		}
		if !slices.Equal(second, before) {
			t.Fatal("an answer shares memory with its shape:", s)
		}
	}
}

// What was refused, or asked for ahead, leaves nothing behind.
func TestShapeCallsKeepNothing(t *testing.T) {
	list := shapesForMemory()
	tell := func(s impl.Shape) []int {
		code, row, place := impl.Check(s)
		b := impl.ShapeBox(s)
		out := []int{code, row, place, b.Lo.X, b.Lo.Y, b.Hi.X, b.Hi.Y}
		for _, seg := range impl.Segments(s) {
			out = append(out, seg[0].X, seg[0].Y, seg[1].X, seg[1].Y)
		}
		return out
	}
	var first [][]int
	for _, s := range list {
		first = append(first, tell(s))
	}
	for i, s := range slices.Backward(list) {
		if !slices.Equal(tell(s), first[i]) {
			t.Error("another answer later:", s)
		}
	}
}
