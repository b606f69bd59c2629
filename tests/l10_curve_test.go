package tests

import (
	"cmp"
	"fmt"
	"math"
	"slices"
	"testing"

	"loop.example/g00108/impl"
)

// mostSorted is how many boxes CurveSort takes.
const mostSorted = 500

// allPlaces is how many places the whole curve has.
const allPlaces = 1 << (2 * impl.CurveBits)

// firstHalf is the first cell, either way, that is in the other half of all cells.
const firstHalf = 1 << (impl.CurveBits - 1)

// xy is a cell.
type xy struct{ x, y int }

// putInQuarter is the document's rule: where the cell u, v of the curve of b - 1 bits is on that of b bits, in the quarter with that number; h is 2^(b - 1).
func putInQuarter(quarter, h, u, v int) xy {
	return [4]xy{{v, u}, {u, v + h}, {u + h, v + h}, {2*h - 1 - v, h - 1 - u}}[quarter]
}

// wholeCurve is all of the curve of few bits, cell by cell.
func wholeCurve(bits int) []xy {
	if bits == 0 {
		return []xy{{0, 0}}
	}
	var out []xy
	inner := wholeCurve(bits - 1)
	for quarter := range 4 {
		for _, c := range inner {
			out = append(out, putInQuarter(quarter, 1<<(bits-1), c.x, c.y))
		}
	}
	return out
}

// wantCell is the cell at a place on the curve of any number of bits.
func wantCell(bits, place int) xy {
	if bits == 0 {
		return xy{}
	}
	inQuarter := 1 << (2 * (bits - 1))
	inner := wantCell(bits-1, place%inQuarter)
	return putInQuarter(place/inQuarter, 1<<(bits-1), inner.x, inner.y)
}

func (c xy) point() impl.Pt { return pt(c.x-most, c.y-most) }

func inWorld(p impl.Pt) bool { return -most <= p.X && p.X <= most && -most <= p.Y && p.Y <= most }

// checkPlace: what both calls tell about one place of the curve, and whether it is that of a point.
func checkPlace(t *testing.T, place int) bool {
	t.Helper()
	want := wantCell(impl.CurveBits, place).point()
	got, ok := impl.CurvePt(place)
	if !inWorld(want) {
		if ok || got != (impl.Pt{}) {
			t.Fatal("the place of no point:", place, got, ok)
		}
		if n := impl.CurveOf(want); n != -1 {
			t.Fatal("the point of no place:", want, n)
		}
		return false
	}
	if !ok || got != want {
		t.Fatal("the point at", place, "is", want, "not", got, ok)
	}
	if n := impl.CurveOf(want); n != place {
		t.Fatal("the place of", want, "is", place, "not", n)
	}
	return true
}

// checkOnCurve: the point has a place, and comes back of it.
func checkOnCurve(t *testing.T, p impl.Pt) int {
	t.Helper()
	n := impl.CurveOf(p)
	if n < 0 || n >= allPlaces {
		t.Fatal("no place of the curve:", p, n)
	}
	if want := wantCell(impl.CurveBits, n).point(); want != p {
		t.Fatal("the place of", p, "is", n, "where", want, "is")
	}
	checkPlace(t, n)
	return n
}

// oneStep: whether two points are neighbours.
func oneStep(a, b impl.Pt) bool { return max(a.X-b.X, b.X-a.X)+max(a.Y-b.Y, b.Y-a.Y) == 1 }

// checkStep: this place and the next one are those of neighbours, where both have points.
func checkStep(t *testing.T, place int) {
	t.Helper()
	a, here := impl.CurvePt(place)
	b, there := impl.CurvePt(place + 1)
	if here && there && !oneStep(a, b) {
		t.Fatal("no neighbours:", place, a, b)
	}
}

// sides are the neighbours of a point, in the world or not.
func sides(p impl.Pt) [4]impl.Pt {
	return [4]impl.Pt{pt(p.X+1, p.Y), pt(p.X-1, p.Y), pt(p.X, p.Y+1), pt(p.X, p.Y-1)}
}

// checkSides: of the neighbours of a point one has the next place and one the last, where these are places of points at all.
func checkSides(t *testing.T, p impl.Pt) {
	t.Helper()
	n := impl.CurveOf(p)
	for _, place := range []int{n - 1, n + 1} {
		count := 0
		for _, side := range sides(p) {
			if inWorld(side) && impl.CurveOf(side) == place {
				count++
			}
		}
		want := 0
		if _, ok := impl.CurvePt(place); ok {
			want = 1
		}
		if count != want {
			t.Fatal("of the neighbours of", p, count, "not", want, "have the place", place)
		}
	}
}

func TestCurvesByExample(t *testing.T) {
	if impl.CurveBits != 25 {
		t.Error("CurveBits:", impl.CurveBits)
	}
	// The places are reckoned by hand: the number of a quarter at each depth is a digit to the base 4.
	const quarter = allPlaces / 4
	half := firstHalf - most
	for _, c := range []struct {
		what string
		p    impl.Pt
		want int
	}{
		{"the corner of all points", pt(-most, -most), 0},
		{"one up", pt(-most, 1-most), 1},
		{"one up and right", pt(1-most, 1-most), 2},
		{"one right", pt(1-most, -most), 3},
		{"two right", pt(2-most, -most), 4},
		{"two right and one up", pt(2-most, 1-most), 7},
		{"two right and two up", pt(2-most, 2-most), 8},
		{"two up", pt(-most, 2-most), 14},
		{"three up", pt(-most, 3-most), 15},
		{"four up", pt(-most, 4-most), 16},
		{"the first cell of the second quarter", pt(-most, half), quarter},
		{"the last cell of the first quarter", pt(-most, half-1), quarter - 1},
		{"the last cell of the second quarter", pt(half-1, half), 2*quarter - 1},
		{"the first cell of the third quarter", pt(half, half), 2 * quarter},
	} {
		if got := impl.CurveOf(c.p); got != c.want {
			t.Error(c.what, c.p, got, "not", c.want)
		}
		if p, ok := impl.CurvePt(c.want); !ok || p != c.p {
			t.Error(c.what, c.want, p, ok)
		}
	}
}

// The curve begins as one of fewer bits does, with both ways changed once for each bit that it has more.
func TestCurveBeginnings(t *testing.T) {
	for bits := range 9 {
		list := wholeCurve(bits)
		for place, c := range list {
			if (impl.CurveBits-bits)%2 == 1 {
				c.x, c.y = c.y, c.x
			}
			if got := impl.CurveOf(c.point()); got != place {
				t.Fatal("the place of the cell", c, "on the curve of", bits, "bits is", place, "not", got)
			}
			if p, ok := impl.CurvePt(place); !ok || p != c.point() {
				t.Fatal("the cell at", place, "on the curve of", bits, "bits is", c, "not", p, ok)
			}
			checkStep(t, place)
		}
	}
}

// The rule by which the tests find one cell tells the same as all cells in a list, and leaves none out.
func TestCurveRuleOfTheTests(t *testing.T) {
	for bits := range 7 {
		list := wholeCurve(bits)
		seen := map[xy]int{}
		for place, c := range list {
			seen[c]++
			if wantCell(bits, place) != c || min(c.x, c.y) < 0 || max(c.x, c.y) >= 1<<bits {
				t.Fatal("the cell at", place, "of", bits, "bits:", c, wantCell(bits, place))
			}
		}
		if len(seen) != 1<<(2*bits) {
			t.Fatal("cells of", bits, "bits:", len(seen))
		}
	}
}

// Each quarter at each depth, the quarters around it being all the same one, or by chance.
func TestCurveQuartersAtEachDepth(t *testing.T) {
	d := &dice{107}
	points := 0
	for depth := range impl.CurveBits {
		for quarter := range 4 {
			for around := range 5 {
				place := 0
				for i := range impl.CurveBits {
					digit := around
					if around == 4 {
						digit = d.below(4)
					}
					if i == depth {
						digit = quarter
					}
					place = 4*place + digit
				}
				if checkPlace(t, place) {
					points++
				}
				checkStep(t, place)
			}
		}
	}
	if points < 100 {
		t.Error("few of the places are those of points:", points)
	}
}

// Where one quarter ends the next one begins, at each depth.
func TestCurveBorders(t *testing.T) {
	d := &dice{108}
	for depth := range impl.CurveBits {
		length := 1 << (2 * (impl.CurveBits - 1 - depth))
		count := allPlaces / length
		for i := range 60 {
			border := (1 + i) % count
			if i > 20 {
				border = d.below(count)
			}
			for off := -2; off <= 2; off++ {
				if place := border*length + off; place >= 0 {
					checkPlace(t, place)
					checkStep(t, place)
				}
			}
		}
	}
}

// Cells on both sides of where the quarters part, along all of it.
func TestCurveSidesOfBorders(t *testing.T) {
	d := &dice{109}
	for half := firstHalf; half > 0; half /= 2 {
		border := half - most
		for i := range 80 {
			along := d.coord()
			if i < 6 {
				along = border - 3 + i
			}
			if along < -most {
				continue
			}
			for off := -2; off <= 1; off++ {
				if at := border + off; at >= -most {
					for _, p := range []impl.Pt{pt(at, along), pt(along, at)} {
						checkOnCurve(t, p)
						checkSides(t, p)
					}
				}
			}
		}
	}
	// Each quarter of all has a fourth of all places.
	at := firstHalf - most
	for want, p := range []impl.Pt{pt(at-1, at-1), pt(at-1, at), pt(at, at), pt(at, at-1)} {
		if got := impl.CurveOf(p) / (allPlaces / 4); got != want {
			t.Error("the quarter of", p, "is", want, "not", got)
		}
	}
}

func TestCurveAtMaxCoord(t *testing.T) {
	edges := []int{-most, 1 - most, -1, 0, 1, firstHalf - most - 1, firstHalf - most, most - 1, most}
	for _, x := range edges {
		for _, y := range edges {
			checkOnCurve(t, pt(x, y))
			checkSides(t, pt(x, y))
		}
		for _, beyond := range []int{-most - 1, most + 1} {
			for _, p := range []impl.Pt{pt(x, beyond), pt(beyond, x)} {
				if got := impl.CurveOf(p); got != -1 {
					t.Error("one beyond:", p, got)
				}
			}
		}
	}
	for _, p := range []impl.Pt{pt(most+1, most+1), pt(-most-1, most+1), pt(most+1, -most-1), pt(-most-1, -most-1)} {
		if got := impl.CurveOf(p); got != -1 {
			t.Error("one beyond both ways:", p, got)
		}
	}
}

func TestCurveOfWrongPoints(t *testing.T) {
	for _, p := range wrongPts() {
		if got := impl.CurveOf(p); got != -1 {
			t.Error("no point:", p, got)
		}
	}
	// All of these are cells of the curve, but of no point.
	for _, c := range []xy{{2*firstHalf - 1, 0}, {2*firstHalf - 1, 2*firstHalf - 1}, {0, 2*firstHalf - 1}, {2*most + 1, 5}, {5, 2*most + 1}} {
		if got := impl.CurveOf(c.point()); got != -1 {
			t.Error("a cell of no point:", c, got)
		}
	}
}

// Walking along the edges of the world, the curve goes out and comes in again.
func TestCurveBesideTheWorld(t *testing.T) {
	d := &dice{110}
	out, in := 0, 0
	for i := range rounds {
		p := d.pt()
		if i%2 == 0 {
			p.X = most
		} else {
			p.Y = most
		}
		n := checkOnCurve(t, p)
		for off := -3; off <= 3; off++ {
			if checkPlace(t, n+off) {
				in++
			} else {
				out++
			}
		}
	}
	if in < rounds || out < rounds/4 {
		t.Error("the curve hardly leaves the world:", in, out)
	}
}

func TestCurveEnds(t *testing.T) {
	if p, ok := impl.CurvePt(0); !ok || p != pt(-most, -most) {
		t.Error("the first place:", p, ok)
	}
	// The last one is that of a cell far to the right.
	if c := wantCell(impl.CurveBits, allPlaces-1); c != (xy{2*firstHalf - 1, 0}) {
		t.Error("the last cell:", c)
	}
	for _, n := range []int{allPlaces - 1, allPlaces - 2, allPlaces - 4} {
		if p, ok := impl.CurvePt(n); ok || p != (impl.Pt{}) {
			t.Error("the last places:", n, p, ok)
		}
	}
	last := lastPointPlace(impl.CurveBits, 0)
	if !checkPlace(t, last) {
		t.Error("the last place of a point has none:", last)
	}
	for i := range 2000 {
		if p, ok := impl.CurvePt(last + 1 + i*((allPlaces-last-1)/2000)); ok || p != (impl.Pt{}) {
			t.Error("behind the last place of a point:", i, p, ok)
		}
	}
}

// lastPointPlace is the last place of a point among those of a curve of so many bits that begins at a place of the whole one: in the last quarter whose lowest corner is in the world, as the world has all that is left of it and below.
func lastPointPlace(bits, from int) int {
	if bits == 0 {
		return from
	}
	length, side := 1<<(2*(bits-1)), 1<<(bits-1)
	for quarter := 3; quarter > 0; quarter-- {
		start := from + quarter*length
		one := wantCell(impl.CurveBits, start)
		low := xy{one.x / side * side, one.y / side * side}
		if inWorld(low.point()) {
			return lastPointPlace(bits-1, start)
		}
	}
	return lastPointPlace(bits-1, from)
}

func TestCurvePtOfWrongPlaces(t *testing.T) {
	list := []int{-1, -2, -4, math.MinInt, math.MinInt + 1, math.MaxInt, math.MaxInt - 1, allPlaces, allPlaces + 1, allPlaces + 3, 2 * allPlaces, 4 * allPlaces, -allPlaces, 1 << 62, -1 << 62, 1 << 51, 1 << 52}
	d := &dice{111}
	for range rounds {
		// As far beyond the curve, or ahead of it, as a point is along it.
		n := impl.CurveOf(d.pt())
		list = append(list, -1-n, n-allPlaces, n+allPlaces, n+4*allPlaces, n+1<<62, n+math.MinInt, math.MaxInt-n)
	}
	for _, n := range list {
		if n >= 0 && n < allPlaces {
			t.Fatal("the test's own place is one:", n)
		}
		if p, ok := impl.CurvePt(n); ok || p != (impl.Pt{}) {
			t.Fatal("no place:", n, p, ok)
		}
	}
}

func TestCurvesByChance(t *testing.T) {
	d := &dice{112}
	count := 0
	for range 5 * rounds {
		p := d.pt()
		checkOnCurve(t, p)
		checkSides(t, p)
		if near := d.near(); inWorld(near) {
			checkOnCurve(t, near)
		}
		place := int(d.next() % allPlaces)
		if checkPlace(t, place) {
			count++
		}
		checkStep(t, place)
	}
	// Some 36 of 100 cells are those of points.
	if count < rounds || count > 3*rounds {
		t.Error("places of points:", count)
	}
}

// halvedDown is the greatest number of which twice is at most n.
func halvedDown(n int) int { return int(math.Floor(float64(n) / 2)) }

func wantKey(b impl.Box) int {
	return impl.CurveOf(pt(halvedDown(b.Lo.X+b.Hi.X), halvedDown(b.Lo.Y+b.Hi.Y)))
}

func TestCurveKeysByExample(t *testing.T) {
	for _, c := range []struct {
		b    impl.Box
		want impl.Pt
	}{
		{box(0, 0, 0, 0), pt(0, 0)}, {box(7, -3, 7, -3), pt(7, -3)}, {box(-7, -3, -7, -3), pt(-7, -3)},
		{box(0, 0, 4, 2), pt(2, 1)}, {box(-4, -2, 4, 2), pt(0, 0)}, {box(-8, -6, -4, -2), pt(-6, -4)},
		{box(0, 0, 1, 1), pt(0, 0)}, {box(0, 0, 5, 3), pt(2, 1)}, {box(1, 2, 2, 3), pt(1, 2)},
		{box(-1, -1, 0, 0), pt(-1, -1)}, {box(-3, 2, 0, 5), pt(-2, 3)}, {box(-5, -4, 2, 1), pt(-2, -2)}, {box(-9, -7, -4, -2), pt(-7, -5)},
		{box(-1, 0, 0, 0), pt(-1, 0)}, {box(0, -1, 0, 0), pt(0, -1)}, {box(-2, 0, 1, 1), pt(-1, 0)}, {box(0, -2, 1, 1), pt(0, -1)},
		{box(-1, 0, 2, 1), pt(0, 0)}, {box(0, -1, 1, 2), pt(0, 0)},
		{box(1, 0, 1, 9), pt(1, 4)}, {box(0, -1, 9, -1), pt(4, -1)},
		{world(), pt(0, 0)}, {box(-most, -most, most-1, most-1), pt(-1, -1)}, {box(1-most, 1-most, most, most), pt(0, 0)},
		{box(-most, -most, -most, -most), pt(-most, -most)}, {box(most, most, most, most), pt(most, most)},
		{box(-most, -most, 1-most, 1-most), pt(-most, -most)}, {box(most-1, most-1, most, most), pt(most-1, most-1)},
		{box(-most, most-1, 1-most, most), pt(-most, most-1)},
	} {
		if got := impl.CurveKey(c.b); got != checkOnCurve(t, c.want) {
			t.Error("the key of", c.b, "is not that of", c.want)
		}
	}
}

func TestCurveKeys(t *testing.T) {
	d := &dice{113}
	list := append(smallBoxes(), rightBoxes()...)
	for range rounds {
		list = append(list, d.box())
		p := d.near()
		list = append(list, box(p.X, p.Y, p.X+d.below(4), p.Y+d.below(4)))
	}
	for _, b := range list {
		if !impl.BoxOk(b) {
			continue
		}
		got := impl.CurveKey(b)
		if got != wantKey(b) {
			t.Fatal("the key of", b, "is", wantKey(b), "not", got)
		}
		if p, ok := impl.CurvePt(got); !ok || !impl.InBox(b, p) {
			t.Fatal("the middle is not in the box:", b, p, ok)
		}
	}
	for range rounds {
		p := d.pt()
		if impl.CurveKey(box(p.X, p.Y, p.X, p.Y)) != impl.CurveOf(p) {
			t.Fatal("the key of a box of one point is not that of the point:", p)
		}
	}
	for _, b := range wrongBoxes() {
		if got := impl.CurveKey(b); got != -1 {
			t.Error("no box:", b, got)
		}
	}
}

// checkSort: all places are there, each key is at least that ahead of it, and of the same ones the least place comes first: one list alone is so.
func checkSort(t *testing.T, list []impl.Box) {
	t.Helper()
	got := impl.CurveSort(list)
	if len(got) != len(list) {
		t.Fatal("places:", len(got), "of", len(list))
	}
	keys := make([]int, len(list))
	for i, b := range list {
		keys[i] = -1
		if impl.BoxOk(b) {
			keys[i] = wantKey(b)
		}
	}
	for i, place := range got {
		if place < 0 || place >= len(list) {
			t.Fatal("a place that is none:", place, len(list))
		}
		if i == 0 {
			continue
		}
		if last := got[i-1]; cmp.Or(cmp.Compare(keys[last], keys[place]), cmp.Compare(last, place)) >= 0 {
			t.Fatal("not in order:", list[last], list[place], last, place)
		}
	}
}

func TestCurveSortsByExample(t *testing.T) {
	first, second, third, fourth := box(-9, -9, -9, -9), box(-9, 9000000, -9, 9000000), box(9000000, 9000000, 9000000, 9000000), box(9000000, -9, 9000000, -9)
	wrong := box(1, 0, 0, 0)
	for _, c := range []struct {
		what string
		list []impl.Box
		want []int
	}{
		{"no box", nil, nil},
		{"no box", []impl.Box{}, nil},
		{"one", []impl.Box{third}, []int{0}},
		{"one that is none", []impl.Box{wrong}, []int{0}},
		{"in order", []impl.Box{first, second, third, fourth}, []int{0, 1, 2, 3}},
		{"backward", []impl.Box{fourth, third, second, first}, []int{3, 2, 1, 0}},
		{"any order", []impl.Box{third, first, fourth, second}, []int{1, 3, 0, 2}},
		{"some alike", []impl.Box{third, first, third, first, first}, []int{1, 3, 4, 0, 2}},
		{"all alike", []impl.Box{second, second, second, second}, []int{0, 1, 2, 3}},
		{"the same middle", []impl.Box{box(-9, -9, 9, 9), second, box(-1, -1, 1, 1), {}, first, box(0, 0, 1, 1)}, []int{4, 0, 2, 3, 5, 1}},
		{"none first", []impl.Box{fourth, wrong, first, box(most+1, 0, most+1, 0), box(-most, -most, -most, -most), wrong}, []int{1, 3, 5, 4, 2, 0}},
		{"all none", []impl.Box{wrong, box(0, 1, 0, 0), wrong}, []int{0, 1, 2}},
	} {
		if got := impl.CurveSort(c.list); !slices.Equal(got, c.want) {
			t.Error(c.what, got, "not", c.want)
		}
		checkSort(t, c.list)
	}
}

// boxes are some, with doubles, boxes that have the same middle as others, and now and then one that is none.
func (d *dice) boxes(count int) []impl.Box {
	wrong := wrongBoxes()
	var list []impl.Box
	for len(list) < count {
		b := d.box()
		switch d.below(8) {
		case 0:
			b = wrong[d.below(len(wrong))]
		case 1, 2:
			if len(list) > 0 {
				b = list[d.below(len(list))]
			}
		case 3:
			x, y := halvedDown(b.Lo.X+b.Hi.X), halvedDown(b.Lo.Y+b.Hi.Y)
			list = append(list, box(x, y, x, y))
		}
		list = append(list, b)
	}
	return list[:count]
}

func TestCurveSortsByChance(t *testing.T) {
	d := &dice{114}
	for range rounds / 4 {
		checkSort(t, d.boxes(d.below(20)))
	}
	for _, count := range []int{11, 12, 13, 100, 255, 256, 257, mostSorted - 1, mostSorted} {
		checkSort(t, d.boxes(count))
		checkSort(t, slices.Repeat([]impl.Box{d.box()}, count))
		checkSort(t, slices.Repeat([]impl.Box{box(1, 0, 0, 0)}, count))
	}
}

func TestCurveSortOfTooMany(t *testing.T) {
	d := &dice{115}
	for _, count := range []int{mostSorted + 1, mostSorted + 2, 2 * mostSorted, 100000} {
		for _, list := range [][]impl.Box{d.boxes(count), make([]impl.Box, count), slices.Repeat([]impl.Box{box(1, 0, 0, 0)}, count)} {
			if got := impl.CurveSort(list); len(got) != 0 {
				t.Error("more boxes than may be:", count, len(got))
			}
		}
	}
	// What lies behind the length does not count.
	if got := impl.CurveSort(make([]impl.Box, mostSorted, 3*mostSorted)); len(got) != mostSorted {
		t.Error("a list with spare room:", len(got))
	}
}

func TestCurveSortLeavesItsList(t *testing.T) {
	d := &dice{116}
	for _, count := range []int{0, 1, 2, 7, 60, mostSorted, mostSorted + 1} {
		room := d.boxes(count + 9)
		before := slices.Clone(room)
		impl.CurveSort(room[:count])
		if !slices.Equal(room, before) {
			t.Error("a list is changed:", count)
		}
	}
}

func TestCurveSortIsItsOwn(t *testing.T) {
	d := &dice{117}
	spoil := func(places []int) {
		places = places[:cap(places)]
		for i := range places {
			places[i] = -7
		}
	}
	for _, count := range []int{0, 1, 2, 3, 20, mostSorted, mostSorted + 1} {
		list := d.boxes(count)
		kept := impl.CurveSort(list)
		want := slices.Clone(kept)
		before := slices.Clone(list)
		other := impl.CurveSort(list)
		spoil(other)
		if !slices.Equal(kept, want) || !slices.Equal(impl.CurveSort(list), want) || !slices.Equal(list, before) {
			t.Error("an answer is not its own:", count)
		}
		for i := range list {
			list[i] = impl.Box{}
		}
		if !slices.Equal(kept, want) {
			t.Error("an answer hangs on its list:", count)
		}
	}
}

// What was refused, or asked for ahead, leaves nothing behind.
func TestCurveCallsKeepNothing(t *testing.T) {
	d := &dice{118}
	type given struct {
		p    impl.Pt
		n    int
		list []impl.Box
	}
	var all []given
	wrong := wrongPts()
	for i := range 300 {
		g := given{p: d.pt(), n: impl.CurveOf(d.pt()), list: d.boxes(1 + d.below(9))}
		switch i % 4 {
		case 0:
			g.p = wrong[d.below(len(wrong))]
		case 1:
			g.n = -1 - g.n
		case 2:
			g.list = d.boxes(mostSorted + d.below(2))
		}
		all = append(all, g)
	}
	tell := func(g given) string {
		p, ok := impl.CurvePt(g.n)
		return fmt.Sprint(impl.CurveOf(g.p), p, ok, impl.CurveKey(g.list[0]), impl.CurveSort(g.list))
	}
	var first []string
	for _, g := range all {
		first = append(first, tell(g))
	}
	for i, g := range slices.Backward(all) {
		if tell(g) != first[i] {
			t.Error("another answer later:", g.p, g.n, len(g.list))
		}
	}
}
