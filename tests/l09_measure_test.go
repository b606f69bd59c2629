package tests

import (
	"cmp"
	"fmt"
	"math"
	"math/big"
	"slices"
	"testing"

	"loop.example/g00108/impl"
)

// longest is how many points Hull and Thin take.
const longest = 500

func byXThenY(a, b impl.Pt) int { return cmp.Or(cmp.Compare(a.X, b.X), cmp.Compare(a.Y, b.Y)) }

func (d *dice) shuffled(list []impl.Pt) []impl.Pt {
	out := slices.Clone(list)
	for i := range out {
		j := d.below(i + 1)
		out[i], out[j] = out[j], out[i]
	}
	return out
}

// allOrders are all orders of a short list.
func allOrders(list []impl.Pt) [][]impl.Pt {
	if len(list) < 2 {
		return [][]impl.Pt{list}
	}
	var out [][]impl.Pt
	for i, p := range list {
		for _, rest := range allOrders(slices.Concat(list[:i], list[i+1:])) {
			out = append(out, slices.Concat([]impl.Pt{p}, rest))
		}
	}
	return out
}

// shortRow tells a row, or how long it is.
func shortRow(row []impl.Pt) string {
	if len(row) > 12 {
		return fmt.Sprint(row[:12], " .. ", len(row))
	}
	return fmt.Sprint(row)
}

// checkHull: what Hull answers of a list that is as it must be has all that makes it the one hull: its corners are of the list, the first one is the least, each turn goes left, and no point is to the right of an edge.
func checkHull(t *testing.T, list []impl.Pt) []impl.Pt {
	t.Helper()
	hull := impl.Hull(list)
	if len(hull) == 0 {
		if len(list) > 0 {
			t.Fatal("no hull:", shortRow(list))
		}
		return hull
	}
	if hull[0] != slices.MinFunc(list, byXThenY) {
		t.Fatal("it does not begin at the least:", shortRow(list), shortRow(hull))
	}
	once := slices.Clone(hull)
	slices.SortFunc(once, byXThenY)
	if len(slices.Compact(once)) != len(hull) {
		t.Fatal("a corner stands there twice:", shortRow(list), shortRow(hull))
	}
	n := len(hull)
	for i, at := range hull {
		next := hull[(i+1)%n]
		if !slices.Contains(list, at) {
			t.Fatal("a corner of its own:", at, shortRow(list), shortRow(hull))
		}
		if n > 2 && wantTurn(at, next, hull[(i+2)%n]) != 1 {
			t.Fatal("it does not turn left:", at, shortRow(list), shortRow(hull))
		}
		for _, p := range list {
			if wantTurn(at, next, p) < 0 || n < 3 && wantGap(p, at, next).Sign() != 0 {
				t.Fatal("a point is not in it:", p, shortRow(list), shortRow(hull))
			}
		}
	}
	return hull
}

// checkInHull: the hull of few corners is a shape that has each point of the list.
func checkInHull(t *testing.T, list, hull []impl.Pt) {
	t.Helper()
	s := shape([]int{impl.ShapePoint, impl.ShapeLine, impl.ShapeArea}[min(len(hull), 3)-1], hull)
	if !good(s) {
		t.Fatal("the hull is no shape:", shortRow(list), s)
	}
	for _, p := range list {
		if !impl.Has(s, p) {
			t.Fatal("a point is not in it:", p, shortRow(list), s)
		}
	}
}

// checkHullIs: this is the hull of a list, in any order and with doubles.
func checkHullIs(t *testing.T, what string, list, want []impl.Pt) {
	t.Helper()
	d := &dice{91}
	lists := [][]impl.Pt{list, backward(list)}
	for range 8 {
		lists = append(lists, d.shuffled(list), d.shuffled(slices.Concat(list, list[:len(list)/2], list)))
	}
	for _, one := range lists {
		if got := impl.Hull(one); !slices.Equal(got, want) {
			t.Fatalf("%s: the hull of %v is %v, not %v", what, shortRow(one), shortRow(got), shortRow(want))
		}
		checkInHull(t, one, checkHull(t, one))
	}
}

func TestHullsByExample(t *testing.T) {
	for _, c := range []struct {
		what string
		list []impl.Pt
		want []impl.Pt
	}{
		{"a square", row(0, 0, 4, 0, 4, 4, 0, 4), row(0, 0, 4, 0, 4, 4, 0, 4)},
		{"a square, points within", row(0, 0, 4, 0, 4, 4, 0, 4, 1, 1, 2, 2, 3, 1, 1, 3), row(0, 0, 4, 0, 4, 4, 0, 4)},
		{"a square, points on its sides", row(0, 0, 4, 0, 4, 4, 0, 4, 2, 0, 1, 0, 4, 1, 4, 3, 2, 4, 0, 2, 0, 1, 0, 3), row(0, 0, 4, 0, 4, 4, 0, 4)},
		{"a square, points next to its corners", row(-4, -4, 4, -4, 4, 4, -4, 4, -3, -4, -4, -3, 3, 4, 4, 3, 3, -4, -3, 4), row(-4, -4, 4, -4, 4, 4, -4, 4)},
		{"a square on its tip", row(0, 3, 3, 0, 6, 3, 3, 6, 3, 3, 1, 2, 5, 4, 2, 5), row(0, 3, 3, 0, 6, 3, 3, 6)},
		{"a triangle", row(0, 0, 9, 0, 0, 9), row(0, 0, 9, 0, 0, 9)},
		{"a triangle, points within and on its sides", row(0, 0, 9, 0, 0, 9, 3, 3, 4, 4, 4, 5, 1, 8, 8, 1, 0, 5, 5, 0, 6, 3), row(0, 0, 9, 0, 0, 9)},
		{"a triangle whose least point is above", row(-5, 7, 0, -9, 3, 8), row(-5, 7, 0, -9, 3, 8)},
		{"a triangle, almost on one way", row(0, 0, 5, 5, 9, 10), row(0, 0, 5, 5, 9, 10)},
		{"a triangle, almost on one way, above", row(0, 0, 5, 6, 9, 10), row(0, 0, 9, 10, 5, 6)},
		{"two with the least X", row(0, 5, 0, -5, 3, 0), row(0, -5, 3, 0, 0, 5)},
		{"three with the least X", row(0, 5, 0, 0, 0, -5, 3, 0), row(0, -5, 3, 0, 0, 5)},
		{"three with the greatest X", row(0, 0, 3, 5, 3, 0, 3, -5), row(0, 0, 3, -5, 3, 5)},
		{"six corners", row(0, 2, 1, 0, 3, 0, 4, 2, 3, 4, 1, 4, 2, 2, 2, 0, 2, 4, 1, 2), row(0, 2, 1, 0, 3, 0, 4, 2, 3, 4, 1, 4)},
		{"bays", crown().Rings[0], row(0, 0, 8, 0, 8, 6, 0, 6)},
		{"a bow", bow(-30, -900, 60), bow(-30, -900, 60)},
		{"all there is", row(-most, -most, most, -most, most, most, -most, most, 0, 0, most, 0, 0, -most, most-1, most), row(-most, -most, most, -most, most, most, -most, most)},
		{"a needle", row(-most, -most, most, most-1, most, most, 0, 0, 1, 1), row(-most, -most, most, most-1, most, most)},
		{"a needle, one step beside", row(-most, -most, most, most-1, most, most, 1, 0), row(-most, -most, 1, 0, most, most-1, most, most)},
		{"a needle that is cut off", row(-most, -most, most, most, most-1, most-2, 0, -1), row(-most, -most, 0, -1, most-1, most-2, most, most)},
		{"one step beside the way", row(-most, -most, most, most, 0, 1), row(-most, -most, most, most, 0, 1)},
		{"one step beside the way, below", row(-most, most, most, -most, 0, -1), row(-most, most, 0, -1, most, -most)},
	} {
		checkHullIs(t, c.what, c.list, c.want)
	}
}

func TestHullsOfFewPoints(t *testing.T) {
	for _, list := range [][]impl.Pt{nil, {}, row(1, 2, 3, 4)[:0]} {
		if got := impl.Hull(list); len(got) != 0 {
			t.Error("the hull of no point:", got)
		}
	}
	for _, p := range row(0, 0, 3, -4, -3, 4, most, most, -most, -most, most, -most, 0, most) {
		for _, n := range []int{1, 2, 3, 4, 7, longest} {
			if got := impl.Hull(slices.Repeat([]impl.Pt{p}, n)); !slices.Equal(got, []impl.Pt{p}) {
				t.Error("the hull of one point:", p, n, got)
			}
		}
	}
	for _, pair := range [][]impl.Pt{
		row(0, 0, 1, 0), row(0, 0, 0, 1), row(-1, 5, 3, -7), row(3, 3, 4, 4), row(-5, -5, -5, -4), row(-most, -most, most, most), row(-most, most, most, -most), row(most, -most, most, most), row(-most, 0, most, 0),
	} {
		checkHullIs(t, "two points", pair, pair)
	}
}

// Points on one way have its two ends, in any order and with doubles.
func TestHullsOnOneWay(t *testing.T) {
	for _, step := range row(0, 1, 1, 0, 1, 1, 1, -1, 3, 1, 2, -5, 1000000, 999999, 1, -1000000) {
		for _, from := range row(0, 0, -5, 7, 3, -3) {
			var way []impl.Pt
			for k := range 5 {
				way = append(way, pt(from.X+k*step.X, from.Y+k*step.Y))
			}
			for n := 2; n <= 5; n++ {
				for _, list := range allOrders(way[:n]) {
					ends := []impl.Pt{way[0], way[n-1]}
					if got := impl.Hull(list); !slices.Equal(got, ends) {
						t.Fatal("on one way:", list, got)
					}
					if got := impl.Hull(slices.Concat(list, list[:n-1], list[1:])); !slices.Equal(got, ends) {
						t.Fatal("on one way, with doubles:", list, got)
					}
				}
			}
		}
	}
	for _, c := range []struct{ list, want []impl.Pt }{
		{row(-most, -most, most, most, 0, 0, -1, -1, most-1, most-1), row(-most, -most, most, most)},
		{row(most, -most, most, most, most, 0, most, -1), row(most, -most, most, most)},
		{row(-most, most, most, most, 0, most, 1-most, most), row(-most, most, most, most)},
	} {
		checkHullIs(t, "on one way, as far as may be", c.list, c.want)
	}
}

func TestHullsAtTheLimit(t *testing.T) {
	d := &dice{92}
	many := bow(-250, 7, longest)
	for _, list := range [][]impl.Pt{many, backward(many), d.shuffled(many)} {
		checkHull(t, list)
		if got := impl.Hull(list); !slices.Equal(got, many) {
			t.Error("all of them are corners:", shortRow(got))
		}
	}
	inSquare := row(0, 0, 30, 0, 30, 30, 0, 30)
	for len(inSquare) < longest {
		inSquare = append(inSquare, pt(d.below(31), d.below(31)))
	}
	if got := impl.Hull(inSquare); !slices.Equal(got, square(0, 0, 30)) {
		t.Error("of just as many as may be:", got)
	}
	var onOneWay []impl.Pt
	for i := range longest {
		onOneWay = append(onOneWay, pt(3*i-7, 5-i))
	}
	if got := impl.Hull(d.shuffled(onOneWay)); !slices.Equal(got, []impl.Pt{onOneWay[0], onOneWay[longest-1]}) {
		t.Error("on one way:", got)
	}
	for what, list := range map[string][]impl.Pt{
		"all corners":          bow(-250, 7, longest+1),
		"one within":           append(slices.Clone(many), pt(0, 62000)),
		"a double":             append(slices.Clone(many), many[3]),
		"one point alone":      slices.Repeat(row(1, 2), longest+1),
		"two points":           slices.Repeat(row(1, 2, 3, 4), longest/2+1),
		"far too many":         slices.Repeat(row(1, 2, 3, 4, 5, 7), 5000),
		"a wrong one, too":     append(slices.Clone(many), pt(most+1, 0)),
		"one more, on one way": append(slices.Clone(onOneWay), onOneWay[0]),
	} {
		if got := impl.Hull(list); len(got) != 0 {
			t.Error("too many points:", what, shortRow(got))
		}
	}
	// What lies behind the length does not count.
	if got := impl.Hull(bow(-250, 7, longest+1)[:longest]); !slices.Equal(got, many) {
		t.Error("behind the length:", shortRow(got))
	}
}

func TestHullsWithWrongPoints(t *testing.T) {
	for _, list := range [][]impl.Pt{row(1, 2), row(0, 0, 4, 0, 4, 4, 0, 4, 2, 2), row(1, 1, 2, 2, 3, 3), slices.Repeat(row(5, 5), 4), bow(0, 0, longest)} {
		for _, place := range []int{0, len(list) / 2, len(list) - 1} {
			for _, wrong := range wrongPts() {
				bad := slices.Clone(list)
				bad[place] = wrong
				if got := impl.Hull(bad); len(got) != 0 {
					t.Fatal("a wrong point:", wrong, place, shortRow(got))
				}
			}
		}
	}
	if got := impl.Hull(wrongPts()); len(got) != 0 {
		t.Error("wrong points alone:", got)
	}
}

// All sets of points of a small grid.
func TestAllSmallHulls(t *testing.T) {
	d := &dice{93}
	all := grid()
	corners := map[int]int{}
	for set := range 1 << len(all) {
		var list []impl.Pt
		for i, p := range all {
			if set>>i&1 == 1 {
				list = append(list, p)
				if d.below(4) == 0 {
					list = append(list, p)
				}
			}
		}
		hull := checkHull(t, d.shuffled(list))
		corners[len(hull)]++
		if len(hull) > 0 && set%5 == 0 {
			checkInHull(t, list, hull)
		}
	}
	for n := range 7 {
		if corners[n] < 1 {
			t.Error("the test itself is wrong:", corners)
		}
	}
}

func TestHullsByChance(t *testing.T) {
	d := &dice{94}
	corners := map[int]int{}
	for i := range rounds {
		var list []impl.Pt
		for range 1 + d.below(5) {
			four := d.four()
			list = append(list, four[:1+d.below(4)]...)
		}
		if i%3 == 0 {
			list = d.nearRow(1 + d.below(40))
		}
		hull := checkHull(t, list)
		checkInHull(t, list, hull)
		corners[len(hull)]++
		// The hull is its own hull, and that of its points with those of the list.
		if !slices.Equal(impl.Hull(hull), hull) || !slices.Equal(impl.Hull(slices.Concat(list, hull)), hull) {
			t.Fatal("its own hull is another one:", list, hull)
		}
	}
	for n := 1; n < 9; n++ {
		if corners[n] < 5 {
			t.Error("the test itself is wrong:", corners)
		}
	}
}

// A hull that is turned or moved is the hull of what is turned or moved, begun at its own least point.
func TestHullsTurned(t *testing.T) {
	d := &dice{95}
	for range rounds / 4 {
		list := d.nearRow(1 + d.below(20))
		hull := impl.Hull(list)
		for range 3 {
			for i := range list {
				list[i] = pt(-list[i].Y, list[i].X)
			}
			for i := range hull {
				hull[i] = pt(-hull[i].Y, hull[i].X)
			}
			least := slices.Index(hull, slices.MinFunc(hull, byXThenY))
			if got := impl.Hull(list); !slices.Equal(got, from(hull, least)) {
				t.Fatal("turned:", list, got, hull)
			}
		}
	}
}

// wantMiddle is Middle by the library's reckoning: an area is parted into triangles from a corner of it, each with its own middle, and those that turn right are taken away.
func wantMiddle(s impl.Shape) (*big.Rat, *big.Rat) {
	x, y, all := new(big.Rat), new(big.Rat), new(big.Rat)
	add := func(weight *big.Rat, corners ...impl.Pt) {
		each := new(big.Rat).Mul(weight, big.NewRat(1, int64(len(corners))))
		for _, p := range corners {
			x.Add(x, new(big.Rat).Mul(each, big.NewRat(int64(p.X), 1)))
			y.Add(y, new(big.Rat).Mul(each, big.NewRat(int64(p.Y), 1)))
		}
		all.Add(all, weight)
	}
	one := big.NewRat(1, 1)
	for _, row := range s.Rings {
		for i, p := range row {
			switch next := row[(i+1)%len(row)]; {
			case s.Kind == impl.ShapeArea:
				corner := s.Rings[0][0]
				add(new(big.Rat).SetInt(wantTwice([]impl.Pt{corner, p, next})), corner, p, next)
			case s.Kind <= impl.ShapePoints:
				add(one, p)
			case i < len(row)-1:
				add(one, p, next)
			}
		}
	}
	return x.Quo(x, all), y.Quo(y, all)
}

func checkMiddle(t *testing.T, what string, s impl.Shape) (impl.Frac, impl.Frac) {
	t.Helper()
	x, y := impl.Middle(s)
	wantX, wantY := wantMiddle(s)
	checkFrac(t, what+": the middle's X", x, wantX)
	checkFrac(t, what+": the middle's Y", y, wantY)
	if t.Failed() {
		t.Fatal("at", s)
	}
	return x, y
}

func TestMiddlesByExample(t *testing.T) {
	for _, c := range []struct {
		what string
		s    impl.Shape
		x, y string
	}{
		{"a point", point(3, -4), "3", "-4"},
		{"a point at nought", point(0, 0), "0", "0"},
		{"a point at the end", point(most, -most), "10000000", "-10000000"},
		{"points, one", points(5, -6), "5", "-6"},
		{"points", points(1, 2, -3, 4, 5, -6), "1", "0"},
		{"points, alike", points(1, 2, 1, 2, 3, 3, 1, 2), "3/2", "9/4"},
		{"points, between above 0", points(0, 0, 0, 1, 1, 1), "1/3", "2/3"},
		{"points, between below 0", points(0, 0, 0, -1, -1, -1), "-1/3", "-2/3"},
		{"points at the corners", points(most, most, -most, most, -most, -most, most, -most), "0", "0"},
		{"points, as many as may be", shape(impl.ShapePoints, slices.Repeat(row(-most, most), impl.MaxRing)), "-10000000", "10000000"},
		{"a line", line(0, 0, 4, 2), "2", "1"},
		{"a line, between", line(0, 0, 1, -1), "1/2", "-1/2"},
		{"a line whose segments differ in length", line(0, 0, 1, 0, 4, 0), "3/2", "0"},
		{"a line, one segment far longer", line(0, 0, 1, 0, 1, 1, 1001, 1), "335/2", "1/2"},
		{"a line there and back", line(0, 0, 5, 5, 0, 0, 5, 5), "5/2", "5/2"},
		{"a line that ends where it began", line(0, 0, 6, 0, 0, 6, 0, 0), "2", "2"},
		{"a line to the end", line(-most, -most, most, most, most, -most), "5000000", "0"},
		{"lines, one", lines(row(0, 0, 4, 2)), "2", "1"},
		{"lines, rows of one segment and of two", lines(row(0, 0, 2, 0), row(10, 0, 10, 1, 10, 3)), "7", "5/6"},
		{"lines, alike", lines(row(0, 0, 1, 3), row(0, 0, 1, 3)), "1/2", "3/2"},
		{"lines below 0", lines(row(-1, -1, -2, -2), row(-1, -1, -2, -2), row(-3, -4, -3, -6)), "-2", "-8/3"},
		{"an area", area(square(0, 0, 10)), "5", "5"},
		{"an area, points on its side", area(row(0, 0, 3, 0, 5, 0, 10, 0, 10, 7, 10, 10, 0, 10)), "5", "5"},
		{"a triangle", area(row(0, 0, 3, 0, 0, 3)), "1", "1"},
		{"a triangle, between above 0", area(row(0, 0, 1, 0, 0, 1)), "1/3", "1/3"},
		{"a triangle, between below 0", area(row(-1, -2, 0, -2, -1, -1)), "-2/3", "-5/3"},
		{"a triangle around 0", area(row(-3, -3, 4, -2, 1, 5)), "2/3", "0"},
		{"an area with a hole", plot(), "109/21", "109/21"},
		{"an area with holes", area(square(0, 0, 10), hole(1, 1, 2), hole(5, 1, 3), hole(1, 6, 2), hole(6, 6, 3)), "179/37", "187/37"},
		{"an area with a hole far from 0", area(square(1000, -2000, 10), hole(1002, -1998, 4)), "21109/21", "-41891/21"},
		{"all there is", area(row(-most, -most, most, -most, most, most, -most, most)), "0", "0"},
		{"all there is but a corner", area(row(-most, -most, most, -most, most, most-1, most-1, most, -most, most)), "-29999999/2399999999999997", "-29999999/2399999999999997"},
		{"the last triangle", area(row(most-1, most-1, most, most-1, most, most)), "29999999/3", "29999998/3"},
		{"the first triangle", area(row(-most, -most, 1-most, -most, -most, 1-most)), "-29999999/3", "-29999999/3"},
		{"a needle", area(row(-most, -most, most, most-1, most, most)), "10000000/3", "3333333"},
	} {
		x, y := checkMiddle(t, c.what, c.s)
		if impl.FracText(x) != c.x || impl.FracText(y) != c.y {
			t.Errorf("%s: %s %s, not %s %s", c.what, impl.FracText(x), impl.FracText(y), c.x, c.y)
		}
	}
}

// The middle of an area may be out of it, in a bay or in a hole.
func TestMiddlesOutOfTheirAreas(t *testing.T) {
	for _, c := range []struct {
		what string
		s    impl.Shape
		x, y string
		loc  int
	}{
		{"in a bay", area(row(0, 0, 9, 0, 9, 9, 8, 9, 8, 1, 1, 1, 1, 9, 0, 9)), "9/2", "169/50", impl.LocOut},
		{"in a hole", area(square(0, 0, 10), hole(1, 1, 8)), "5", "5", impl.LocOut},
		{"on the edge of a bay", area(row(0, 0, 8, 0, 8, 6, 7, 6, 7, 2, 1, 2, 1, 6, 0, 6)), "4", "2", impl.LocOn},
		{"in it", area(square(0, 0, 10), hole(1, 1, 2)), "41/8", "41/8", impl.LocIn},
	} {
		x, y := checkMiddle(t, c.what, c.s)
		if impl.FracText(x) != c.x || impl.FracText(y) != c.y {
			t.Errorf("%s: %s %s, not %s %s", c.what, impl.FracText(x), impl.FracText(y), c.x, c.y)
		}
		if got := impl.LocateFrac(c.s, x, y); got != c.loc {
			t.Error(c.what, "it lies elsewhere:", got)
		}
	}
}

func TestMiddlesOfGoodShapes(t *testing.T) {
	for what, s := range goodShapes() {
		checkMiddle(t, what, s)
	}
	for _, s := range areasWithEdges() {
		checkMiddle(t, "an area", s)
	}
}

func TestMiddlesByChance(t *testing.T) {
	d := &dice{96}
	seen := map[int]int{}
	for i := range 3 * rounds {
		s := d.turnAbout(i)
		if !good(s) {
			x, y := impl.Middle(s)
			checkNought(t, "X of no shape", x)
			checkNought(t, "Y of no shape", y)
			continue
		}
		seen[s.Kind]++
		x, y := checkMiddle(t, "by chance", s)
		around := impl.ShapeBox(s)
		if impl.CmpFrac(x, fracOf(t, around.Lo.X, 1)) < 0 || impl.CmpFrac(x, fracOf(t, around.Hi.X, 1)) > 0 || impl.CmpFrac(y, fracOf(t, around.Lo.Y, 1)) < 0 || impl.CmpFrac(y, fracOf(t, around.Hi.Y, 1)) > 0 {
			t.Fatal("out of its box:", s)
		}
		if s.Kind == impl.ShapeArea && len(s.Rings) == 1 && len(s.Rings[0]) == 3 && impl.LocateFrac(s, x, y) != impl.LocIn {
			t.Fatal("out of a triangle:", s)
		}
	}
	for _, kind := range allKinds() {
		if seen[kind] < 100 {
			t.Error("the test itself is wrong:", seen)
		}
	}
}

// The middle of a hull is in it.
func TestMiddlesOfHulls(t *testing.T) {
	d := &dice{97}
	for range rounds / 4 {
		hull := impl.Hull(d.nearRow(3 + d.below(20)))
		if s := area(hull); good(s) {
			if x, y := checkMiddle(t, "a hull", s); impl.LocateFrac(s, x, y) != impl.LocIn {
				t.Fatal("out of a hull:", hull)
			}
		}
	}
}

// The middle goes with its shape, and hangs on neither where a ring begins nor on the order of its rows.
func TestMiddlesOfMovedAndTurnedShapes(t *testing.T) {
	d := &dice{98}
	for i := range rounds / 2 {
		s := d.nearShape(1 + i%5)
		x, y := wantMiddle(s)
		by := pt(d.below(2*most-40)-most+20, d.below(2*most-40)-most+20)
		there, ok := impl.Moved(s, by)
		if !ok {
			t.Fatal("the test itself is wrong:", s, by)
		}
		u, v := impl.Middle(there)
		checkFrac(t, "moved, X", u, new(big.Rat).Add(x, big.NewRat(int64(by.X), 1)))
		checkFrac(t, "moved, Y", v, new(big.Rat).Add(y, big.NewRat(int64(by.Y), 1)))
		u, v = impl.Middle(impl.Turned(s, 1))
		checkFrac(t, "turned, X", u, new(big.Rat).Neg(y))
		checkFrac(t, "turned, Y", v, x)
		other := cloned(s)
		if s.Kind == impl.ShapeArea {
			for r, ring := range other.Rings {
				other.Rings[r] = from(ring, d.below(len(ring)))
			}
			slices.Reverse(other.Rings[1:])
		} else {
			slices.Reverse(other.Rings)
			slices.Reverse(other.Rings[0])
		}
		u, v = impl.Middle(other)
		checkFrac(t, "in another order, X", u, x)
		checkFrac(t, "in another order, Y", v, y)
		if t.Failed() {
			t.Fatal("at", s, by)
		}
	}
}

func TestMiddlesOfWrongShapes(t *testing.T) {
	check := func(what string, s impl.Shape) {
		t.Helper()
		x, y := impl.Middle(s)
		checkNought(t, what+": X", x)
		checkNought(t, what+": Y", y)
	}
	for what, s := range wrongShapes() {
		check(what, s)
	}
	for _, s := range spoiltShapes() {
		check("spoilt", s)
	}
}

// wantThin is Thin by the library's reckoning: again and again each part that has a point too far beside keeps the farthest one.
func wantThin(row []impl.Pt, square int) []impl.Pt {
	stay := []int{0, len(row) - 1}
	for more := true; more; {
		more = false
		next := stay[:1:1]
		for i := 1; i < len(stay); i++ {
			far, place := big.NewRat(int64(square), 1), -1
			for k := stay[i-1] + 1; k < stay[i]; k++ {
				if gap := wantGap(row[k], row[stay[i-1]], row[stay[i]]); gap.Cmp(far) > 0 {
					far, place = gap, k
				}
			}
			if place >= 0 {
				next, more = append(next, place), true
			}
			next = append(next, stay[i])
		}
		stay = next
	}
	var out []impl.Pt
	for _, place := range stay {
		out = append(out, row[place])
	}
	return out
}

// checkThin: Thin answers what it must of a row that is as it must be, and each point is near to what is left.
func checkThin(t *testing.T, row []impl.Pt, square int) []impl.Pt {
	t.Helper()
	got := impl.Thin(row, square)
	if want := wantThin(row, square); !slices.Equal(got, want) {
		t.Fatal("thinned to", square, shortRow(row), "is", shortRow(got), "not", shortRow(want))
	}
	checkNear(t, row, got, square)
	return got
}

// checkNear: no point of a row is farther than square from the line that is left.
func checkNear(t *testing.T, row, left []impl.Pt, square int) {
	t.Helper()
	limit := big.NewRat(int64(square), 1)
	for _, p := range row {
		near := slices.Contains(left, p)
		for i := 1; i < len(left) && !near; i++ {
			near = wantGap(p, left[i-1], left[i]).Cmp(limit) <= 0
		}
		if !near {
			t.Fatal("thinned to", square, shortRow(row), "is too far from", p, shortRow(left))
		}
	}
}

func TestThinByExample(t *testing.T) {
	bend := row(0, 0, 2, 5, 4, 0)
	many := row(0, 0, 1, 1, 2, 5, 3, 1, 4, 0)
	saw := row(0, 0, 1, 2, 2, 0, 3, 2, 4, 0, 5, 2, 6, 0)
	for _, c := range []struct {
		what   string
		row    []impl.Pt
		square int
		want   []impl.Pt
	}{
		{"two points", row(0, 0, 4, 0), 0, row(0, 0, 4, 0)},
		{"two points, a great square", row(0, 0, 4, 0), math.MaxInt, row(0, 0, 4, 0)},
		{"two points that are the same", row(3, 3, 3, 3), 0, row(3, 3, 3, 3)},
		{"one bend", bend, 0, bend},
		{"one bend, just above", bend, 24, bend},
		{"one bend, just square", bend, 25, row(0, 0, 4, 0)},
		{"one bend, just below", bend, 26, row(0, 0, 4, 0)},
		{"many bends, 0", many, 0, many},
		{"many bends, 1", many, 1, row(0, 0, 2, 5, 4, 0)},
		{"many bends, great", many, 25, row(0, 0, 4, 0)},
		{"many bends, the greatest", many, math.MaxInt, row(0, 0, 4, 0)},
		{"a saw, 0", saw, 0, saw},
		{"a saw, 3", saw, 3, row(0, 0, 1, 2, 6, 0)},
		{"a saw, 4", saw, 4, row(0, 0, 6, 0)},
		{"on one way", row(0, 0, 1, 1, 2, 2, 7, 7, 9, 9), 0, row(0, 0, 9, 9)},
		{"on one way, there and back within", row(0, 0, 5, 0, 2, 0, 9, 0), 0, row(0, 0, 9, 0)},
		{"on one way, beyond the end", row(0, 0, 5, 0, 3, 0), 0, row(0, 0, 5, 0, 3, 0)},
		{"on one way, beyond the end, near", row(0, 0, 5, 0, 3, 0), 4, row(0, 0, 3, 0)},
		{"on one way, beyond the start", row(0, 0, -3, 0, 2, 0, 9, 0), 8, row(0, 0, -3, 0, 9, 0)},
		{"a corner, with points on its sides", row(0, 0, 3, 0, 6, 0, 6, 2, 6, 6), 0, row(0, 0, 6, 0, 6, 6)},
		{"beside the start, not the way", row(0, 0, -3, 4, 10, 0), 24, row(0, 0, -3, 4, 10, 0)},
		{"beside the start, just square", row(0, 0, -3, 4, 10, 0), 25, row(0, 0, 10, 0)},
		{"beside the end, not the way", row(0, 0, 13, 4, 10, 0), 24, row(0, 0, 13, 4, 10, 0)},
		{"beside the end, just square", row(0, 0, 13, 4, 10, 0), 25, row(0, 0, 10, 0)},
		{"a gap between whole numbers, below it", row(0, 0, 0, 3, 3, 1), 8, row(0, 0, 0, 3, 3, 1)},
		{"a gap between whole numbers, above it", row(0, 0, 0, 3, 3, 1), 9, row(0, 0, 3, 1)},
		{"a gap below 1", row(0, 0, 1, 1, 3, 2), 0, row(0, 0, 1, 1, 3, 2)},
		{"a gap below 1, to 1", row(0, 0, 1, 1, 3, 2), 1, row(0, 0, 3, 2)},
		{"both ends one point", row(0, 0, 3, 0, 3, 4, 0, 0), 0, row(0, 0, 3, 0, 3, 4, 0, 0)},
		{"both ends one point, to less than the second gap", row(0, 0, 3, 0, 3, 4, 0, 0), 5, row(0, 0, 3, 0, 3, 4, 0, 0)},
		{"both ends one point, to more than the second gap", row(0, 0, 3, 0, 3, 4, 0, 0), 6, row(0, 0, 3, 4, 0, 0)},
		{"both ends one point, to the first gap", row(0, 0, 3, 0, 3, 4, 0, 0), 25, row(0, 0, 0, 0)},
		{"there and back", row(0, 0, 5, 5, 0, 0), 49, row(0, 0, 5, 5, 0, 0)},
		{"there and back, just square", row(0, 0, 5, 5, 0, 0), 50, row(0, 0, 0, 0)},
		{"one point many times", row(1, 1, 1, 1, 1, 1, 1, 1), 0, row(1, 1, 1, 1)},
		{"doubles at the start", row(0, 0, 0, 0, 0, 0, 4, 0), 0, row(0, 0, 4, 0)},
		{"doubles at the end", row(0, 0, 4, 0, 4, 0, 4, 0), 0, row(0, 0, 4, 0)},
		{"doubles at the bend", row(0, 0, 2, 5, 2, 5, 2, 5, 4, 0), 0, bend},
		{"doubles all along", row(0, 0, 0, 0, 2, 5, 2, 5, 4, 0, 4, 0), 24, bend},
		{"a double that is far from its like", row(0, 0, 2, 5, 4, 0, 2, 5, 8, 0), 0, row(0, 0, 2, 5, 4, 0, 2, 5, 8, 0)},
		{"two with the same gap: the first", row(0, 0, 1, 3, 3, 3, 4, 0), 8, row(0, 0, 1, 3, 4, 0)},
		{"two on both sides with the same gap", row(0, 0, 1, -3, 3, 3, 4, 0), 8, row(0, 0, 1, -3, 3, 3, 4, 0)},
		{"three with the same gap", row(0, 0, 1, 2, 3, 2, 5, 2, 6, 0), 3, row(0, 0, 1, 2, 6, 0)},
		{"the same gap beyond both ends", row(0, 0, -2, 0, 12, 0, 10, 0), 3, row(0, 0, -2, 0, 12, 0, 10, 0)},
		{"ends that are one, two as far", row(0, 0, 3, 4, 4, 3, 0, 0), 24, row(0, 0, 3, 4, 0, 0)},
		{"ends that are one, two as far, backward", row(0, 0, 4, 3, 3, 4, 0, 0), 24, row(0, 0, 4, 3, 0, 0)},
		{"as far as may be", row(-most, -most, most, most, -most, -most), 799999999999999, row(-most, -most, most, most, -most, -most)},
		{"as far as may be, just square", row(-most, -most, most, most, -most, -most), 800000000000000, row(-most, -most, -most, -most)},
		{"far beside a long way", row(-most, -most, most, -most, most, most), 199999999999999, row(-most, -most, most, -most, most, most)},
		{"far beside a long way, just square", row(-most, -most, most, -most, most, most), 200000000000000, row(-most, -most, most, most)},
		{"close beside a long way", row(-most, -most, 0, 1, most, most), 0, row(-most, -most, 0, 1, most, most)},
		{"on a long way", row(-most, -most, 0, 0, most, most), 0, row(-most, -most, most, most)},
		{"one closer beside a long way than another", row(-most, -most, -5, -4, 5, 7, most, most), 1, row(-most, -most, 5, 7, most, most)},
	} {
		if got := impl.Thin(c.row, c.square); !slices.Equal(got, c.want) {
			t.Errorf("%s: %v thinned to %d is %v, not %v", c.what, c.row, c.square, got, c.want)
		}
		checkThin(t, c.row, c.square)
	}
}

// Gaps that differ by less than a float tells apart.
func TestThinByTheLeastDifference(t *testing.T) {
	ends := row(-most, -most, most, most-1)
	for _, c := range []struct {
		what   string
		beside impl.Pt
		other  impl.Pt
	}{
		{"one step along the way", pt(-3000000, 5000000), pt(-2999999, 5000001)},
		{"one step along the way, far out", pt(-most, most-2), pt(1-most, most-1)},
		{"the mirror image", pt(-3000000, 5000000), pt(3000000, -5000001)},
		{"one and its like", pt(0, 5000000), pt(0, 5000000)},
		{"beside each other", pt(2, 5000000), pt(3, 5000001)},
	} {
		for _, two := range [][]impl.Pt{{c.beside, c.other}, {c.other, c.beside}} {
			row := []impl.Pt{ends[0], two[0], two[1], ends[1]}
			first, second := wantGap(two[0], ends[0], ends[1]), wantGap(two[1], ends[0], ends[1])
			great := first
			if second.Cmp(first) > 0 {
				great = second
			}
			below := int(new(big.Int).Div(great.Num(), great.Denom()).Int64())
			for _, square := range []int{below - 1, below, below + 1, below / 2, 0} {
				checkThin(t, row, square)
			}
			want := two[0]
			if second.Cmp(first) > 0 {
				want = two[1]
			}
			if got := impl.Thin(row, below-1); len(got) < 3 || !slices.Contains(got, want) {
				t.Error(c.what, "the farther one, or the first, stays:", row, got)
			}
		}
	}
}

// Backward a row may be thinned otherwise: of several as far the first stays, whichever way they go.
func TestThinKeepsTheFirstOfSeveral(t *testing.T) {
	for n := 2; n < 9; n++ {
		level := row(0, 0)
		for i := range n {
			level = append(level, pt(10+i, 100))
		}
		level = append(level, pt(100+n, 0))
		if got := checkThin(t, level, 9999); !slices.Equal(got, []impl.Pt{level[0], level[1], level[n+1]}) {
			t.Error("the first of", n, "as far:", got)
		}
		if got := checkThin(t, backward(level), 9999); !slices.Equal(got, []impl.Pt{level[n+1], level[n], level[0]}) {
			t.Error("the first of", n, "as far, backward:", got)
		}
		if got := checkThin(t, level, 10000); len(got) != 2 {
			t.Error("just square:", got)
		}
	}
}

// zigzag has n points, each of which is farther beside than all behind it, so that one alone is parted off at a time.
func zigzag(n int) []impl.Pt {
	var out []impl.Pt
	for i := range n {
		y := most - i*most/n
		if i%2 == 1 {
			y = -y
		}
		out = append(out, pt(7*i, y))
	}
	return out
}

func TestThinAtTheLimit(t *testing.T) {
	d := &dice{99}
	var straight, anywhere, there []impl.Pt
	for i := range longest {
		straight = append(straight, pt(3*i, 5-i))
		anywhere = append(anywhere, d.pt())
		there = append(there, pt(i%2, 0))
	}
	for what, row := range map[string][]impl.Pt{"a bow": bow(-250, 7, longest), "a zigzag": zigzag(longest), "straight": straight, "anywhere": anywhere, "there and back": there} {
		for _, square := range []int{0, 1, 1000, 1 << 40, math.MaxInt} {
			got := impl.Thin(row, square)
			checkNear(t, row, got, square)
			if what != "a zigzag" && !slices.Equal(got, wantThin(row, square)) {
				t.Error(what, square, shortRow(got))
			}
			if got[0] != row[0] || got[len(got)-1] != row[longest-1] {
				t.Error(what, "its ends stay")
			}
		}
	}
	if got := impl.Thin(zigzag(longest), 0); !slices.Equal(got, zigzag(longest)) {
		t.Error("a zigzag has no point on a segment:", shortRow(got))
	}
	if got := impl.Thin(bow(-250, 7, longest), 0); !slices.Equal(got, bow(-250, 7, longest)) {
		t.Error("a bow has no point on a segment:", shortRow(got))
	}
	if got := impl.Thin(straight, 0); !slices.Equal(got, []impl.Pt{straight[0], straight[longest-1]}) {
		t.Error("straight:", shortRow(got))
	}
	for _, more := range []int{1, 2, 100, 5000} {
		for _, square := range []int{0, 1, math.MaxInt} {
			for _, row := range [][]impl.Pt{slices.Repeat(row(1, 2), longest+more), slices.Repeat(straight, 12)[:longest+more]} {
				if got := impl.Thin(row, square); !slices.Equal(got, row) {
					t.Error("too many points:", more, square, shortRow(got))
				}
			}
		}
	}
	// What lies behind the length does not count.
	if got := impl.Thin(slices.Concat(straight, straight)[:longest], 0); len(got) != 2 {
		t.Error("behind the length:", shortRow(got))
	}
}

func TestThinOfWrongRows(t *testing.T) {
	check := func(what string, row []impl.Pt, square int) {
		t.Helper()
		if got := impl.Thin(row, square); !slices.Equal(got, row) {
			t.Fatal(what, square, shortRow(row), shortRow(got))
		}
	}
	right := row(0, 0, 2, 0, 4, 0, 5, 1, 6, 0)
	for _, square := range []int{0, 1, 100, math.MaxInt, -1, math.MinInt} {
		check("no point", nil, square)
		check("no point", []impl.Pt{}, square)
		check("one point", row(3, 4), square)
		check("one wrong point", row(most+1, 4), square)
	}
	for _, square := range []int{-1, -2, -100, math.MinInt, math.MinInt + 1, -1 << 32} {
		check("a square below 0", right, square)
		check("a square below 0", row(0, 0, 4, 4), square)
		check("a square below 0, doubles", row(0, 0, 0, 0, 0, 0), square)
		check("a square below 0, too many", slices.Repeat(row(1, 2), longest+1), square)
	}
	for place := range right {
		for _, wrong := range wrongPts() {
			bad := slices.Clone(right)
			bad[place] = wrong
			for _, square := range []int{0, 1, math.MaxInt, -1} {
				check("a wrong point", bad, square)
			}
		}
	}
	for _, place := range []int{0, 250, longest - 1} {
		bad := slices.Repeat(row(1, 2), longest)
		bad[place].Y = -most - 1
		check("a wrong point of many", bad, 5)
	}
}

// All rows of three and four points of a small grid, and some of five.
func TestAllSmallRowsThinned(t *testing.T) {
	d := &dice{100}
	all := grid()
	lengths := map[int]int{}
	for _, a := range all {
		for _, b := range all {
			for _, c := range all {
				for _, square := range []int{0, 1, 2, 4} {
					lengths[len(checkThin(t, []impl.Pt{a, b, c}, square))]++
				}
				for _, e := range all {
					list := []impl.Pt{a, b, c, e}
					if d.below(3) == 0 {
						list = append(list, all[d.below(len(all))])
					}
					lengths[len(checkThin(t, list, d.below(4)))]++
				}
			}
		}
	}
	for n := 2; n <= 5; n++ {
		if lengths[n] < 100 {
			t.Error("the test itself is wrong:", lengths)
		}
	}
}

func TestThinByChance(t *testing.T) {
	d := &dice{101}
	lengths := map[int]int{}
	for i := range rounds {
		list := d.nearRow(2 + d.below(15))
		square := d.below(12)
		if i%3 == 0 {
			list = nil
			for range 1 + d.below(4) {
				four := d.four()
				list = append(list, four[:]...)
			}
			square = int(d.next() >> (2 + d.below(62)) % (1 << 50))
		}
		lengths[len(checkThin(t, list, square))]++
	}
	for n := 2; n < 12; n++ {
		if lengths[n] < 5 {
			t.Error("the test itself is wrong:", lengths)
		}
	}
}

// wholePoints are all whole points of a segment.
func wholePoints(a, b impl.Pt) []impl.Pt {
	var out []impl.Pt
	for x := min(a.X, b.X); x <= max(a.X, b.X); x++ {
		for y := min(a.Y, b.Y); y <= max(a.Y, b.Y); y++ {
			if wantGap(pt(x, y), a, b).Sign() == 0 {
				out = append(out, pt(x, y))
			}
		}
	}
	return out
}

// A line that is thinned to 0 has the same points on it: each segment lies in one of those that are left, and of what is left each point was there.
func TestThinnedToNoughtIsTheSameLine(t *testing.T) {
	d := &dice{102}
	shorter := 0
	for range rounds / 4 {
		// Few ways and small steps, so that much is on one way; all is times 6, so that there are points between.
		list := []impl.Pt{{}}
		for range 1 + d.below(8) {
			at, step := list[len(list)-1], row(6, 0, 6, 0, -6, 0, 12, 0, 0, 6, 6, 6)[d.below(6)]
			list = append(list, pt(at.X+step.X, at.Y+step.Y))
		}
		left := checkThin(t, list, 0)
		if len(left) < len(list) {
			shorter++
		}
		for i := 1; i < len(list); i++ {
			covered := false
			for k := 1; k < len(left); k++ {
				covered = covered || impl.OnSeg(left[k-1], left[k], list[i-1]) && impl.OnSeg(left[k-1], left[k], list[i])
			}
			if !covered {
				t.Fatal("a segment is gone:", list[i-1:i+1], list, left)
			}
		}
		was := shape(impl.ShapeLine, list)
		for k := 1; k < len(left); k++ {
			for _, p := range wholePoints(left[k-1], left[k]) {
				if !impl.Has(was, p) {
					t.Fatal("a point that was not there:", p, list, left)
				}
			}
		}
	}
	if shorter < rounds/8 {
		t.Error("the test itself is wrong:", shorter)
	}
}

// What stays at a square is the farthest of all still, so what is thinned twice is thinned to the greater square.
func TestThinnedLinesThinnedAgain(t *testing.T) {
	d := &dice{103}
	for range rounds {
		list := d.nearRow(2 + d.below(12))
		one, other := d.below(12), d.below(12)
		if got, want := impl.Thin(impl.Thin(list, one), other), impl.Thin(list, max(one, other)); !slices.Equal(got, want) {
			t.Fatal("thinned to", one, "and to", other, list, "is", got, "not", want)
		}
	}
}

// turnedBy is a shape of which each point was turned so often.
func turnedBy(s impl.Shape, times int) impl.Shape {
	out := cloned(s)
	for range times {
		for _, row := range out.Rings {
			for i, p := range row {
				row[i] = pt(-p.Y, p.X)
			}
		}
	}
	return out
}

// manyQuarters are numbers of quarters, and how often each comes to turn.
func manyQuarters() map[int]int {
	out := map[int]int{}
	for _, around := range []int{math.MinInt + 5, -1 << 62, -1 << 32, -1000, 0, 1000, 1 << 32, 1 << 62, math.MaxInt - 5} {
		for by := -5; by <= 5; by++ {
			n := around + by
			out[n] = int(new(big.Int).Mod(big.NewInt(int64(n)), big.NewInt(4)).Int64())
		}
	}
	return out
}

func TestTurnedByExample(t *testing.T) {
	wedge := area(square(0, 0, 10), hole(1, 2, 3))
	for _, c := range []struct {
		s       impl.Shape
		quarter int
		want    impl.Shape
	}{
		{point(3, 1), 0, point(3, 1)},
		{point(3, 1), 1, point(-1, 3)},
		{point(3, 1), 2, point(-3, -1)},
		{point(3, 1), 3, point(1, -3)},
		{point(3, 1), 4, point(3, 1)},
		{point(3, 1), 5, point(-1, 3)},
		{point(3, 1), 7, point(1, -3)},
		{point(3, 1), -1, point(1, -3)},
		{point(3, 1), -2, point(-3, -1)},
		{point(3, 1), -3, point(-1, 3)},
		{point(3, 1), -4, point(3, 1)},
		{point(3, 1), -5, point(1, -3)},
		{point(3, 1), math.MaxInt, point(1, -3)},
		{point(3, 1), math.MaxInt - 1, point(-3, -1)},
		{point(3, 1), math.MinInt, point(3, 1)},
		{point(3, 1), math.MinInt + 1, point(-1, 3)},
		{point(0, 0), 1, point(0, 0)},
		{point(most, -most), 1, point(most, most)},
		{point(-most, most), 3, point(most, most)},
		{point(-most, 0), 2, point(most, 0)},
		{points(1, 2, 1, 2, -3, 4), 1, points(-2, 1, -2, 1, -4, -3)},
		{line(0, 0, 5, 1), 2, line(0, 0, -5, -1)},
		{lines(row(0, 0, 5, 1), row(2, 3, 4, 5, 2, 3)), 3, lines(row(0, 0, 1, -5), row(3, -2, 5, -4, 3, -2))},
		{wedge, 1, area(row(0, 0, 0, 10, -10, 10, -10, 0), row(-2, 1, -5, 1, -5, 4, -2, 4))},
		{wedge, 2, area(row(0, 0, -10, 0, -10, -10, 0, -10), row(-1, -2, -1, -5, -4, -5, -4, -2))},
		{area(row(-most, -most, most, -most, most, most, -most, most)), 1, area(row(most, -most, most, most, -most, most, -most, -most))},
	} {
		if got := impl.Turned(c.s, c.quarter); !impl.SameShape(got, c.want) {
			t.Error("turned", c.s, c.quarter, "is", got, "not", c.want)
		}
	}
}

func TestTurnedByEachQuarter(t *testing.T) {
	for what, s := range goodShapes() {
		for quarter, times := range manyQuarters() {
			got := impl.Turned(s, quarter)
			if !impl.SameShape(got, turnedBy(s, times)) {
				t.Fatal(what, quarter, times, got)
			}
		}
		for quarter := range 4 {
			got := impl.Turned(s, quarter)
			if !good(got) {
				t.Error(what, "is not good any more:", quarter)
			}
			for more := -4; more <= 4; more++ {
				if !impl.SameShape(impl.Turned(got, more), impl.Turned(s, quarter+more)) {
					t.Error(what, "turned on:", quarter, more)
				}
			}
			if !impl.SameShape(impl.Turned(got, -quarter), s) {
				t.Error(what, "turned back:", quarter)
			}
		}
	}
}

func TestTurnedAndMovedByChance(t *testing.T) {
	d := &dice{104}
	kinds := map[int]int{}
	for i := range 3 * rounds {
		s := d.turnAbout(i)
		quarter := int(d.next())
		turned := impl.Turned(s, quarter)
		by := d.pt()
		if d.below(3) == 0 {
			by = pt(d.below(41)-20, d.below(41)-20)
		}
		there, ok := checkMoved(t, s, by)
		if !good(s) {
			if !impl.SameShape(turned, s) || ok {
				t.Fatal("no good shape:", s, turned, ok)
			}
			continue
		}
		kinds[s.Kind]++
		if !good(turned) || !impl.SameShape(turned, turnedBy(s, quarter&3)) || !impl.SameShape(impl.Turned(turned, -(quarter%4)), s) {
			t.Fatal("turned:", s, quarter, turned)
		}
		if !ok {
			continue
		}
		if back, ok := impl.Moved(there, pt(-by.X, -by.Y)); !ok || !impl.SameShape(back, s) {
			t.Fatal("moved back:", s, by, back)
		}
	}
	for _, kind := range allKinds() {
		if kinds[kind] < 100 {
			t.Error("the test itself is wrong:", kinds)
		}
	}
}

func TestTurnedWrongShapes(t *testing.T) {
	check := func(what string, s impl.Shape) {
		t.Helper()
		for _, quarter := range []int{0, 1, 2, 3, 4, -1, math.MinInt, math.MaxInt} {
			if got := impl.Turned(s, quarter); !impl.SameShape(got, s) {
				t.Fatal(what, quarter, s, got)
			}
		}
	}
	for what, s := range wrongShapes() {
		check(what, s)
	}
	for _, s := range spoiltShapes() {
		check("spoilt", s)
	}
}

// checkMoved: Moved answers what it must, by the library's reckoning.
func checkMoved(t *testing.T, s impl.Shape, by impl.Pt) (impl.Shape, bool) {
	t.Helper()
	stays := func(n, more int) bool {
		sum := new(big.Int).Add(big.NewInt(int64(n)), big.NewInt(int64(more)))
		return sum.CmpAbs(big.NewInt(most)) <= 0
	}
	want, wantOk := s, good(s)
	for _, row := range s.Rings {
		for _, p := range row {
			wantOk = wantOk && stays(p.X, by.X) && stays(p.Y, by.Y)
		}
	}
	if wantOk {
		want = moved(s, by.X, by.Y)
	}
	got, ok := impl.Moved(s, by)
	if ok != wantOk || !impl.SameShape(got, want) {
		t.Fatal("moved", s, by, "is", got, ok, "not", want, wantOk)
	}
	if ok && !good(got) {
		t.Fatal("moved it is not good any more:", s, by, got)
	}
	return got, ok
}

func TestMovedByExample(t *testing.T) {
	for _, c := range []struct {
		s    impl.Shape
		by   impl.Pt
		want impl.Shape
		ok   bool
	}{
		{point(3, 1), pt(0, 0), point(3, 1), true},
		{point(3, 1), pt(-4, 1), point(-1, 2), true},
		{point(3, 1), pt(4, 0), point(7, 1), true},
		{point(3, 1), pt(0, -5), point(3, -4), true},
		{point(3, 1), pt(most-3, 0), point(most, 1), true},
		{point(3, 1), pt(most-2, 0), point(3, 1), false},
		{point(3, 1), pt(most, 0), point(3, 1), false},
		{point(3, 1), pt(-most-3, 0), point(-most, 1), true},
		{point(3, 1), pt(-most-4, 0), point(3, 1), false},
		{point(3, 1), pt(0, -most-1), point(3, -most), true},
		{point(3, 1), pt(0, -most-2), point(3, 1), false},
		{point(3, 1), pt(most, most), point(3, 1), false},
		{point(-most, -most), pt(2*most, 2*most), point(most, most), true},
		{point(-most, -most), pt(2*most+1, 0), point(-most, -most), false},
		{point(-most, -most), pt(0, 2*most+1), point(-most, -most), false},
		{point(most, -most), pt(-2*most, 2*most), point(-most, most), true},
		{point(most, -most), pt(-2*most-1, 2*most), point(most, -most), false},
		{point(1, 1), pt(math.MaxInt, 0), point(1, 1), false},
		{point(1, 1), pt(math.MaxInt, math.MaxInt), point(1, 1), false},
		{point(-1, 1), pt(math.MinInt, 0), point(-1, 1), false},
		{point(-1, -1), pt(math.MinInt, math.MinInt), point(-1, -1), false},
		{point(0, 0), pt(0, math.MinInt), point(0, 0), false},
		{points(1, 2, 1, 2, -3, 4), pt(10, -10), points(11, -8, 11, -8, 7, -6), true},
		{points(0, 0, most, 0, 0, most), pt(1, 0), points(0, 0, most, 0, 0, most), false},
		{points(0, 0, most, 0, 0, most), pt(-1, -1), points(-1, -1, most-1, -1, -1, most-1), true},
		{line(0, 0, 5, 1), pt(-5, 0), line(-5, 0, 0, 1), true},
		{lines(row(0, 0, 5, 1), row(2, 3, 4, 5, 2, most)), pt(0, 1), lines(row(0, 0, 5, 1), row(2, 3, 4, 5, 2, most)), false},
		{lines(row(0, 0, 5, 1), row(2, 3, 4, 5, 2, 3)), pt(1, 1), lines(row(1, 1, 6, 2), row(3, 4, 5, 6, 3, 4)), true},
		{plot(), pt(-5, 7), area(square(-5, 7, 10), hole(-3, 9, 4)), true},
		{area(row(-most, -most, most, -most, most, most, -most, most)), pt(0, 0), area(row(-most, -most, most, -most, most, most, -most, most)), true},
		{area(row(-most, -most, most, -most, most, most, -most, most)), pt(0, 1), area(row(-most, -most, most, -most, most, most, -most, most)), false},
	} {
		if got, ok := impl.Moved(c.s, c.by); ok != c.ok || !impl.SameShape(got, c.want) {
			t.Error("moved", c.s, c.by, "is", got, ok, "not", c.want, c.ok)
		}
		checkMoved(t, c.s, c.by)
	}
}

// Each good shape is moved each way as far as it goes, and one step farther.
func TestMovedAsFarAsItGoes(t *testing.T) {
	for what, s := range goodShapes() {
		around := impl.ShapeBox(s)
		right, up, left, down := most-around.Hi.X, most-around.Hi.Y, -most-around.Lo.X, -most-around.Lo.Y
		for _, c := range []struct {
			by impl.Pt
			ok bool
		}{
			{pt(right, 0), true}, {pt(right+1, 0), false}, {pt(left, 0), true}, {pt(left-1, 0), false},
			{pt(0, up), true}, {pt(0, up+1), false}, {pt(0, down), true}, {pt(0, down-1), false},
			{pt(right, up), true}, {pt(right, up+1), false}, {pt(right+1, up), false}, {pt(left, down), true}, {pt(left, down-1), false}, {pt(left-1, down), false},
			{pt(left, up), true}, {pt(right, down), true},
			{pt(math.MaxInt, 0), false}, {pt(math.MinInt, 0), false}, {pt(0, math.MaxInt), false}, {pt(0, math.MinInt), false},
			{pt(math.MaxInt, math.MinInt), false}, {pt(math.MinInt, math.MaxInt), false}, {pt(math.MaxInt-most, 0), false}, {pt(0, math.MinInt+most), false},
			{pt(1<<32, 0), false}, {pt(0, -1<<32), false}, {pt(1<<62, 1<<62), false},
		} {
			if _, ok := checkMoved(t, s, c.by); ok != c.ok {
				t.Error(what, c.by, ok)
			}
		}
	}
}

// One point alone that would be beyond keeps all where they are, whichever it is.
func TestMovedWithOnePointBeyond(t *testing.T) {
	for place := range impl.MaxRing {
		list := bow(0, 0, impl.MaxRing)
		list[place] = pt(most-5, 0)
		for _, s := range []impl.Shape{shape(impl.ShapePoints, list), shape(impl.ShapeLine, list), lines(row(0, 0, 1, 1), list), lines(list, row(0, 0, 1, 1))} {
			if _, ok := checkMoved(t, s, pt(5, 0)); !ok {
				t.Error("just as far as may be:", place)
			}
			if _, ok := checkMoved(t, s, pt(6, 0)); ok {
				t.Error("one step farther:", place)
			}
			upright := impl.Turned(s, 3)
			if _, ok := checkMoved(t, upright, pt(0, -5)); !ok {
				t.Error("upright, just as far as may be:", place)
			}
			if _, ok := checkMoved(t, upright, pt(0, -6)); ok {
				t.Error("upright, one step farther:", place)
			}
		}
	}
}

func TestMovedWrongShapes(t *testing.T) {
	check := func(what string, s impl.Shape) {
		t.Helper()
		for _, by := range []impl.Pt{{}, pt(1, 0), pt(0, -1), pt(-most, -most), pt(math.MinInt, math.MaxInt), pt(math.MaxInt, 0)} {
			if got, ok := impl.Moved(s, by); ok || !impl.SameShape(got, s) {
				t.Fatal(what, by, s, got, ok)
			}
		}
	}
	for what, s := range wrongShapes() {
		check(what, s)
	}
	for _, s := range spoiltShapes() {
		check("spoilt", s)
	}
	// What comes of it would be good, but it is not.
	for _, s := range []impl.Shape{point(most+1, 0), point(0, -most-1), line(most+1, 0, 0, 0), area(square(most-8, 0, 9))} {
		for _, by := range []impl.Pt{pt(-1, 0), pt(0, 1), pt(-5, 5)} {
			if got, ok := checkMoved(t, s, by); ok || !impl.SameShape(got, s) {
				t.Error("not good as it is:", s, by, got, ok)
			}
		}
	}
}

// overwriteRow puts other points into a row and into the room behind it.
func overwriteRow(row []impl.Pt) {
	row = row[:cap(row)]
	for i := range row {
		row[i] = pt(-77, 77)
	}
}

// checkRowIsItsOwn: a call leaves its row, and what lies behind it, alone, looks at nothing there, and answers in new memory.
func checkRowIsItsOwn(t *testing.T, what string, list []impl.Pt, call func([]impl.Pt) []impl.Pt) {
	t.Helper()
	want := slices.Clone(call(slices.Clone(list)))
	for _, behind := range [][]impl.Pt{nil, row(5, 5, 1, 1, 2, 9), {pt(most+1, 0)}, slices.Repeat(row(math.MinInt, math.MaxInt), 600)} {
		memory := slices.Clip(slices.Concat(list, behind))
		before := slices.Clone(memory)
		given := memory[:len(list)]
		first, second := call(given), call(given)
		if !slices.Equal(first, want) || !slices.Equal(second, want) {
			t.Fatal(what, "looks at what lies behind:", shortRow(list))
		}
		overwriteRow(first)
		if !slices.Equal(memory, before) {
			t.Fatal(what, "a row was changed, or is shared:", shortRow(list))
		}
		if !slices.Equal(second, want) || !slices.Equal(call(given), want) {
			t.Fatal(what, "shares memory with an earlier answer:", shortRow(list))
		}
		overwriteRow(memory)
		if !slices.Equal(second, want) {
			t.Fatal(what, "changes with its row:", shortRow(list))
		}
	}
}

// rowsForMemory are ordinary ones, those at the edges, and wrong ones.
func rowsForMemory() [][]impl.Pt {
	d := &dice{105}
	list := [][]impl.Pt{
		nil, {}, row(1, 2), row(1, 2, 1, 2), row(1, 2, 3, 4), row(3, 4, 1, 2), row(0, 0, 1, 1, 2, 2), row(2, 2, 1, 1, 0, 0, 1, 1), square(0, 0, 9), row(0, 0, 2, 5, 4, 0), bow(0, 0, longest), backward(bow(0, 0, longest)), bow(0, 0, longest+1), slices.Repeat(row(1, 2), longest),
		slices.Repeat(row(1, 2), longest+1), row(most+1, 0), row(0, 0, most+1, 0), row(math.MinInt, 0, 1, 1, 2, 2), row(4, 0, 2, 5, 0, 0, 0, math.MaxInt),
	}
	for range 60 {
		list = append(list, d.nearRow(2+d.below(12)))
	}
	return list
}

func TestHullsAreTheirOwn(t *testing.T) {
	for _, list := range rowsForMemory() {
		checkRowIsItsOwn(t, "Hull", list, impl.Hull)
	}
}

func TestThinnedRowsAreTheirOwn(t *testing.T) {
	for _, list := range rowsForMemory() {
		for _, square := range []int{0, 3, math.MaxInt, -1, math.MinInt} {
			checkRowIsItsOwn(t, fmt.Sprint("Thin to ", square), list, func(row []impl.Pt) []impl.Pt { return impl.Thin(row, square) })
		}
	}
}

// checkShapeIsItsOwn: a call leaves its shape, and what lies behind its rows, alone, looks at nothing there, and answers in new memory.
func checkShapeIsItsOwn(t *testing.T, what string, s impl.Shape, call func(impl.Shape) impl.Shape) {
	t.Helper()
	want := cloned(call(cloned(s)))
	for _, odd := range []impl.Pt{pt(5, 5), pt(most+1, 0), pt(math.MinInt, math.MaxInt)} {
		given, memory, all := roomyShape(s, odd)
		points, rows := slices.Clone(memory), cloned(impl.Shape{Rings: all})
		unchanged := func() bool {
			return slices.Equal(memory, points) && impl.SameShape(impl.Shape{Rings: all}, rows)
		}
		got := call(given)
		if !impl.SameShape(got, want) {
			t.Fatal(what, "looks at what lies behind:", s, got)
		}
		if !unchanged() {
			t.Fatal(what, "a shape was changed:", s)
		}
		checkReadIsItsOwn(t, what, want, func() impl.Shape { return call(given) })
		if !unchanged() || t.Failed() {
			t.Fatal(what, "shares memory with its shape:", s)
		}
		overwriteRow(memory)
		overwrite(impl.Shape{Rings: all})
		if !impl.SameShape(got, want) {
			t.Fatal(what, "changes with its shape:", s)
		}
	}
	// Rows that lie in one another's memory are parted.
	if len(s.Rings) > 1 {
		twice := impl.Shape{Kind: s.Kind, Rings: slices.Repeat(s.Rings[:1], len(s.Rings))}
		checkReadIsItsOwn(t, what+", one row twice", cloned(call(twice)), func() impl.Shape { return call(twice) })
	}
}

func TestTurnedShapesAreTheirOwn(t *testing.T) {
	for _, s := range append(shapesForMemory(), lines(row(0, 0, 1, 1), nil), impl.Shape{Kind: 9, Rings: [][]impl.Pt{{}, nil, {}}}) {
		for _, quarter := range []int{0, 1, 2, 3, 4, -1} {
			checkShapeIsItsOwn(t, fmt.Sprint("Turned by ", quarter), s, func(s impl.Shape) impl.Shape { return impl.Turned(s, quarter) })
		}
	}
}

func TestMovedShapesAreTheirOwn(t *testing.T) {
	for _, s := range append(shapesForMemory(), lines(row(0, 0, 1, 1), nil), impl.Shape{Kind: 9, Rings: [][]impl.Pt{{}, nil, {}}}) {
		for _, by := range []impl.Pt{{}, pt(3, -2), pt(2*most+1, 0), pt(math.MinInt, math.MaxInt)} {
			checkShapeIsItsOwn(t, fmt.Sprint("Moved by ", by), s, func(s impl.Shape) impl.Shape {
				got, _ := impl.Moved(s, by)
				return got
			})
		}
	}
}

func TestMiddleLeavesItsShape(t *testing.T) {
	checkLeavesShapes(t, func(s impl.Shape) string { return fmt.Sprint(impl.Middle(s)) })
}

// middleParts are the numbers of one answer.
func middleParts(s impl.Shape) []impl.Num {
	x, y := impl.Middle(s)
	return []impl.Num{x.N, x.D, y.N, y.D}
}

func TestMiddlesAreTheirOwn(t *testing.T) {
	for _, s := range append(shapesForMemory(), point(5, 5), points(1, 1, 2, 2), line(3, 3, 4, 4), area(square(7, 7, 9)), point(0, 0)) {
		want := middleParts(s)
		for i := range want {
			parts, others := middleParts(s), middleParts(s)
			for k := range parts {
				if k != i {
					scribble(parts[k])
				}
				scribble(others[k])
			}
			if !sameNum(parts[i], want[i]) || !sameNum(middleParts(s)[i], want[i]) {
				t.Fatal("answers with memory that is not its own:", s, i)
			}
		}
	}
}

// What was refused, or asked for ahead, leaves nothing behind.
func TestMeasureCallsKeepNothing(t *testing.T) {
	d := &dice{106}
	type given struct {
		s    impl.Shape
		list []impl.Pt
		n    int
		by   impl.Pt
	}
	var all []given
	for i, list := range rowsForMemory() {
		all = append(all, given{s: d.turnAbout(i), list: list, n: d.below(9) - 2, by: d.near()})
	}
	tell := func(g given) string {
		x, y := impl.Middle(g.s)
		there, ok := impl.Moved(g.s, g.by)
		return fmt.Sprint(impl.Hull(g.list), impl.FracText(x), impl.FracText(y), impl.Thin(g.list, g.n), impl.Turned(g.s, g.n), there, ok)
	}
	var first []string
	for _, g := range all {
		first = append(first, tell(g))
	}
	for i, g := range slices.Backward(all) {
		if tell(g) != first[i] {
			t.Error("another answer later:", g.s, shortRow(g.list))
		}
	}
}
