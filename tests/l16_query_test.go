package tests

import (
	"fmt"
	"maps"
	"math"
	"math/big"
	"slices"
	"testing"

	"loop.example/g00108/impl"
)

const mostPairs = 1000

// wantThose are the Ids of those shapes of a map that are meant; nothing of what is no map.
func wantThose(m []impl.Entry, isMeant func(impl.Shape) bool) []int {
	if !wantMapOk(m) {
		return nil
	}
	var out []int
	for _, e := range m {
		if isMeant(e.Shape) {
			out = append(out, e.Id)
		}
	}
	return out
}

func wantWindow(m []impl.Entry, b impl.Box) []int {
	return wantThose(m, func(s impl.Shape) bool { return impl.BoxOk(b) && wantMeetsBox(s, b) })
}

func (w wantMeet) meeting(m []impl.Entry, s impl.Shape) []int {
	return wantThose(m, func(one impl.Shape) bool { return good(s) && w.shapes(one, s) })
}

func wantCoveredBy(m []impl.Entry, a impl.Shape) []int {
	return wantThose(m, func(s impl.Shape) bool {
		return a.Kind == impl.ShapeArea && good(a) && s.Kind != impl.ShapeArea && wantCovers(a, s)
	})
}

// wantRanked are all Ids of a map, the nearest first; nothing of what is no map, or where p is no point.
func wantRanked(m []impl.Entry, p impl.Pt) []int {
	if !wantMapOk(m) || !inWorld(p) {
		return nil
	}
	dists := map[int]*big.Rat{}
	var out []int
	for _, e := range m {
		dists[e.Id] = wantDist(e.Shape, p)
		out = append(out, e.Id)
	}
	// The Ids ascend, so those that are as far as one another stay in their order.
	slices.SortStableFunc(out, func(i, j int) int { return dists[i].Cmp(dists[j]) })
	return out
}

// ofRanked are the first k, or nothing, of them.
func ofRanked(ranked []int, k int) []int { return ranked[:max(0, min(k, len(ranked)))] }

func (w wantMeet) pairs(a, b []impl.Entry) [][2]int {
	if !wantMapOk(a) || !wantMapOk(b) {
		return nil
	}
	var out [][2]int
	for _, e := range a {
		for _, other := range b {
			if len(out) < mostPairs && w.shapes(e.Shape, other.Shape) {
				out = append(out, [2]int{e.Id, other.Id})
			}
		}
	}
	return out
}

// boxesOf is what an index of a map holds, in the map's order.
func boxesOf(m []impl.Entry) []idBox {
	var out []idBox
	for _, e := range m {
		var boxes []impl.Box
		for _, p := range slices.Concat(e.Shape.Rings...) {
			boxes = append(boxes, impl.Box{Lo: p, Hi: p})
		}
		out = append(out, idBox{e.Id, wantJoined(boxes)})
	}
	return out
}

// mapOf is a map of shapes with Ids from first on.
func mapOf(first int, shapes ...impl.Shape) []impl.Entry {
	var out []impl.Entry
	for i, s := range shapes {
		out = append(out, entry(first+i, s))
	}
	return out
}

// spread are the shapes as a map with Ids that are not one behind the other.
func (d *dice) spread(shapes ...impl.Shape) []impl.Entry {
	var out []impl.Entry
	id := 0
	for _, s := range shapes {
		id += 1 + d.below(9)
		out = append(out, entry(id, s))
	}
	return out
}

// shapesOf are so many good ones of all kinds in turn.
func shapesOf(count int, one func(kind int) impl.Shape) []impl.Shape {
	var out []impl.Shape
	for i := range count {
		out = append(out, one(1+i%5))
	}
	return out
}

// farShape is a near one moved to any place nearby, so that a map of them is a wide one.
func (d *dice) farShape(kind int) impl.Shape {
	return moved(d.nearShape(kind), 10*d.below(40)-200, 10*d.below(40)-200)
}

// mapsToAsk are right ones.
func mapsToAsk() map[string][]impl.Entry {
	d := &dice{1601}
	all := goodShapes()
	var kinds []impl.Shape
	// To ask of that one takes so long that a test of its own does.
	delete(all, "an area, as great as may be")
	for _, what := range slices.Sorted(maps.Keys(all)) {
		kinds = append(kinds, all[what])
	}
	return map[string][]impl.Entry{
		"none":                   nil,
		"one point":              mapOf(7, point(3, 4)),
		"one area":               mapOf(mostId, plot()),
		"a leaf":                 mapOf(1, point(0, 0), line(0, 5, 5, 5), plot(), points(3, 3, 9, 9)),
		"a leaf and one":         mapOf(1, point(0, 0), line(0, 5, 5, 5), plot(), points(3, 3, 9, 9), lines(row(1, 1, 2, 2), row(8, 8, 8, 9))),
		"each kind":              mapOf(1, shapesOfEachKind()...),
		"good shapes":            mapOf(100, kinds...),
		"the same shape":         mapOf(5, slices.Repeat([]impl.Shape{line(1, 2, 5, 3)}, 30)...),
		"near by chance":         d.spread(shapesOf(25, d.nearShape)...),
		"great by chance":        d.spread(shapesOf(20, d.greatShape)...),
		"far apart by chance":    d.spread(shapesOf(60, d.farShape)...),
		"areas one in the other": mapOf(1, area(square(0, 0, 100)), area(square(10, 10, 80), hole(20, 20, 60)), area(square(30, 30, 40)), point(50, 50), area(square(0, 0, 100), hole(1, 1, 98))),
	}
}

// windowsFor are windows of every kind that tell something of a map.
func (d *dice) windowsFor(m []impl.Entry) []impl.Box {
	out := windowsOn(boxesOf(m), 3)
	for range 12 {
		out = append(out, d.nearBox(), d.box())
	}
	return out
}

// pointsFor are points on shapes, beside them and far off, and some that are none.
func (d *dice) pointsFor(m []impl.Entry) []impl.Pt {
	out := append([]impl.Pt{{}, pt(most, most), pt(-most, most), pt(50, 50)}, wrongPts()[:4]...)
	for range 4 {
		out = append(out, d.near(), d.pt())
	}
	for i, e := range m {
		if i%max(1, len(m)/3) == 0 {
			p := e.Shape.Rings[0][0]
			out = append(out, p, pt(p.X+1, p.Y), pt(p.X-2, p.Y+1))
		}
	}
	return out
}

// counts are what may be asked for of so many.
func counts(length int) []int {
	return []int{math.MinInt, -1, 0, 1, 2, 3, length - 1, length, length + 1, 1000, math.MaxInt}
}

// grown is a tree to which all were added, one behind the other.
func grown(t *testing.T, n impl.Node, list []idBox) impl.Node {
	t.Helper()
	for _, b := range list {
		var ok bool
		if n, ok = impl.TreeAdd(n, b.id, b.box); !ok {
			t.Fatal("not added:", b)
		}
	}
	return n
}

func thinned(t *testing.T, n impl.Node, list []idBox) impl.Node {
	t.Helper()
	for _, b := range list {
		var ok bool
		if n, ok = impl.TreeTake(n, b.id); !ok {
			t.Fatal("not taken:", b)
		}
	}
	return n
}

func mixed[T any](d *dice, list []T) []T {
	out := slices.Clone(list)
	for i := range out {
		j := i + d.below(len(out)-i)
		out[i], out[j] = out[j], out[i]
	}
	return out
}

// lopsided is a tree of the list that no call made: its Nodes have any number of Kids.
func (d *dice) lopsided(list []idBox) impl.Node {
	var level []impl.Node
	for len(list) > 0 {
		n := min(len(list), 1+d.below(mostNode))
		level, list = append(level, leaf(list[:n]...)), list[n:]
	}
	for len(level) > 1 {
		var above []impl.Node
		for len(level) > 0 {
			n := min(len(level), 1+d.below(mostNode))
			above, level = append(above, inner(level[:n]...)), level[n:]
		}
		level = above
	}
	if len(level) == 0 {
		return impl.Node{}
	}
	return onKid(level[0], d.below(3))
}

// indexesFor are indexes of a map: built at once, grown in several orders, thinned, and others.
func indexesFor(t *testing.T, d *dice, m []impl.Entry) map[string]impl.Node {
	t.Helper()
	list := boxesOf(m)
	falling := slices.Clone(list)
	slices.Reverse(falling)
	byX := slices.Clone(list)
	slices.SortFunc(byX, func(a, b idBox) int { return a.box.Hi.X - b.box.Hi.X })
	var more []idBox
	for i := range 40 {
		more = append(more, idBox{-i, d.treeBox()})
	}
	half := list[:len(list)/2]
	return map[string]impl.Node{
		"built at once":              impl.IndexOf(m),
		"built in another order":     wantTreeBuild(falling),
		"grown":                      grown(t, impl.Node{}, list),
		"grown falling":              grown(t, impl.Node{}, falling),
		"grown by X":                 grown(t, impl.Node{}, byX),
		"grown by chance":            grown(t, impl.Node{}, mixed(d, list)),
		"built and thinned":          thinned(t, wantTreeBuild(slices.Concat(more, list)), mixed(d, more)),
		"grown and thinned":          thinned(t, grown(t, impl.Node{}, mixed(d, slices.Concat(list, more))), mixed(d, more)),
		"grown behind, and thinned":  thinned(t, grown(t, grown(t, impl.Node{}, more), list), more),
		"half of it taken and added": grown(t, thinned(t, impl.IndexOf(m), half), mixed(d, half)),
		"all taken and added":        grown(t, thinned(t, impl.IndexOf(m), mixed(d, list)), list),
		"in any form":                d.lopsided(mixed(d, list)),
	}
}

func checkIds(t *testing.T, what string, got, want []int) {
	t.Helper()
	if !slices.Equal(got, want) {
		t.Fatalf("%s: %v, not %v", what, got, want)
	}
}

// checkWindows: Window, and WindowBy of all indexes.
func checkWindows(t *testing.T, what string, m []impl.Entry, indexes map[string]impl.Node, windows []impl.Box) {
	t.Helper()
	for _, b := range windows {
		want := wantWindow(m, b)
		checkIds(t, fmt.Sprint("Window of ", what, b), impl.Window(m, b), want)
		for how, n := range indexes {
			checkIds(t, fmt.Sprint("WindowBy of ", what, b, how), impl.WindowBy(n, m, b), want)
		}
	}
}

// checkNearest: Nearest, and NearestBy of all indexes, of as many as are counted.
func checkNearest(t *testing.T, what string, m []impl.Entry, indexes map[string]impl.Node, points []impl.Pt, ks []int) {
	t.Helper()
	for _, p := range points {
		ranked := wantRanked(m, p)
		for _, k := range ks {
			want := ofRanked(ranked, k)
			checkIds(t, fmt.Sprint("Nearest of ", what, p, k), impl.Nearest(m, p, k), want)
			for how, n := range indexes {
				checkIds(t, fmt.Sprint("NearestBy of ", what, p, k, how), impl.NearestBy(n, m, p, k), want)
			}
		}
	}
}

// What is asked through an index is what is asked without.
func TestMapsAskedWithAndWithoutAnIndex(t *testing.T) {
	t.Parallel()
	d := &dice{1602}
	for what, m := range inOrder(mapsToAsk()) {
		indexes := indexesFor(t, d, m)
		for how, n := range indexes {
			if !impl.TreeOk(n) {
				t.Fatal("the test itself is wrong:", what, how)
			}
		}
		checkWindows(t, what, m, indexes, d.windowsFor(m))
		checkNearest(t, what, m, indexes, d.pointsFor(m), counts(len(m)))
	}
}

func TestMapsByChanceAskedThroughIndexes(t *testing.T) {
	t.Parallel()
	d := &dice{1603}
	for i := range 40 {
		one := []func(int) impl.Shape{d.nearShape, d.farShape, d.greatShape}[i%3]
		m := d.spread(shapesOf(d.below(30), func(int) impl.Shape { return one(1 + d.below(5)) })...)
		list := boxesOf(m)
		n, left := impl.Node{}, []impl.Entry{}
		// The index grows with the map, and both are thinned.
		for _, at := range mixed(d, idsFrom(0, len(m), 1)) {
			n = grown(t, n, list[at:at+1])
			left = slices.Insert(left, slices.IndexFunc(append(left, m[at]), func(e impl.Entry) bool { return e.Id >= m[at].Id }), m[at])
			if d.below(3) == 0 {
				gone := d.below(len(left))
				n = thinned(t, n, boxesOf(left[gone:gone+1]))
				left = slices.Delete(left, gone, gone+1)
			}
			indexes := map[string]impl.Node{"its own": n}
			checkWindows(t, "a map by chance", left, indexes, []impl.Box{d.nearBox(), d.box()})
			checkNearest(t, "a map by chance", left, indexes, []impl.Pt{d.near(), d.pt()}, []int{1 + d.below(4), 1 + len(left)/2})
		}
	}
}

func TestFullMapsAskedThroughIndexes(t *testing.T) {
	t.Parallel()
	d := &dice{1604}
	for _, one := range []func(i int) impl.Shape{
		func(i int) impl.Shape { return point(7*i%1000, 13*i%700) },
		func(i int) impl.Shape { return line(i, 500-i, i+40, 520-i) },
		func(i int) impl.Shape { return area(square(20*(i%25), 20*(i/25), 15+i%9)) },
		func(i int) impl.Shape { return point(5, 5) },
	} {
		var shapes []impl.Shape
		for i := range mostEntries {
			shapes = append(shapes, one(i))
		}
		m := mapOf(1, shapes...)
		indexes := map[string]impl.Node{"built": impl.IndexOf(m), "grown": grown(t, impl.Node{}, mixed(d, boxesOf(m)))}
		checkWindows(t, "a full map", m, indexes, []impl.Box{world(), box(100, 100, 130, 160), box(5, 5, 5, 5), box(-9, -9, -1, -1)})
		checkNearest(t, "a full map", m, indexes, []impl.Pt{pt(250, 260), pt(5, 5), pt(-most, 7)}, []int{1, 7, 250, 499, 500, 501})
		checkWindows(t, "one too many", append(m, entry(501, point(1, 1))), indexes, []impl.Box{world()})
		checkNearest(t, "one too many", append(m, entry(501, point(1, 1))), indexes, []impl.Pt{{}}, []int{1, 600})
	}
}

func TestGreatestShapesAskedThroughIndexes(t *testing.T) {
	t.Parallel()
	m := mapOf(1, goodShapes()["an area, as great as may be"], lines(repeated(impl.MaxRings, bow(0, 0, impl.MaxRing))...), point(20, 410), point(20, 390), shape(impl.ShapePoints, bow(3000, 0, impl.MaxRing)))
	indexes := map[string]impl.Node{"built": impl.IndexOf(m), "grown": grown(t, impl.Node{}, boxesOf(m))}
	checkWindows(t, "the greatest", m, indexes, []impl.Box{world(), box(20, 405, 22, 410), box(20, 390, 20, 390), box(-9, 300, 3000, 301)})
	checkNearest(t, "the greatest", m, indexes, row(20, 410, 0, 0, 3100, 5), []int{1, 3, 5})
}

// asked is what is asked of a map, and what is wanted then.
type asked[T any] struct {
	what string
	of   T
	want []int
}

func TestWindowsByExample(t *testing.T) {
	t.Parallel()
	m := []impl.Entry{
		entry(2, point(3, 4)),
		entry(5, line(-5, 3, 5, 3)),
		entry(9, area(row(10, 0, 20, 0, 10, 10))),
		entry(10, area(square(30, 30, 20), hole(35, 35, 10))),
		entry(11, points(60, 0, 70, 10)),
		entry(12, lines(row(60, 30, 70, 40), row(80, 30, 90, 30))),
	}
	n := impl.IndexOf(m)
	for _, c := range []asked[impl.Box]{
		{"two", box(0, 3, 3, 4), []int{2, 5}},
		{"all", box(-5, 0, 90, 50), []int{2, 5, 9, 10, 11, 12}},
		{"the world", world(), []int{2, 5, 9, 10, 11, 12}},
		{"a corner that just touches a point", box(3, 4, 8, 9), []int{2}},
		{"an edge that just touches a point", box(0, 4, 8, 9), []int{2}},
		{"one beside a point", box(4, 4, 8, 9), nil},
		{"an edge along a line", box(-9, 3, 9, 3), []int{5}},
		{"a corner on a line's end", box(5, 1, 8, 3), []int{5}},
		{"a corner within a line", box(1, 0, 2, 3), []int{5}},
		{"one below a line", box(-9, 0, 9, 2), nil},
		{"the empty corner of a triangle's box", box(16, 6, 20, 10), nil},
		{"a corner on its long side", box(15, 5, 20, 10), []int{9}},
		{"a point on its long side", box(15, 5, 15, 5), []int{9}},
		{"a point in it", box(11, 1, 11, 1), []int{9}},
		{"a corner on a corner of it", box(20, -9, 25, 0), []int{9}},
		{"all in a hole", box(36, 36, 44, 44), nil},
		{"a hole just to its edge", box(35, 35, 45, 45), []int{10}},
		{"a point on the hole's edge", box(35, 40, 35, 40), []int{10}},
		{"around an area", box(0, -9, 60, 99), []int{2, 5, 9, 10, 11, 12}},
		{"between points", box(61, 1, 69, 9), nil},
		{"the second point", box(70, 10, 75, 12), []int{11}},
		{"between lines", box(71, 25, 79, 45), nil},
		{"the second line", box(85, 20, 85, 40), []int{12}},
		{"no box", box(3, 4, -5, 3), nil},
		{"no box, beyond", box(-5, 0, most+1, 50), nil},
		{"the zero Box", impl.Box{}, nil},
	} {
		checkIds(t, c.what, impl.Window(m, c.of), c.want)
		checkIds(t, c.what+", by the index", impl.WindowBy(n, m, c.of), c.want)
		checkWindows(t, c.what, m, map[string]impl.Node{"built": n}, []impl.Box{c.of})
	}
}

func TestMeetingByExample(t *testing.T) {
	t.Parallel()
	m := []impl.Entry{
		entry(1, point(3, 3)),
		entry(4, points(0, 0, 20, 20)),
		entry(6, line(0, 10, 10, 0)),
		entry(8, lines(row(0, 30, 10, 30), row(30, 0, 30, 10))),
		entry(mostId, area(square(0, 0, 10), hole(2, 2, 4))),
	}
	w := wantMeet{}
	for _, c := range []asked[impl.Shape]{
		{"a point on a point, in a hole", point(3, 3), []int{1}},
		{"a point on a line, in the area", point(8, 2), []int{6, mostId}},
		{"a point in the hole", point(4, 4), nil},
		{"a point on the hole's edge", point(2, 3), []int{mostId}},
		{"one of several points", points(99, 99, 20, 20), []int{4}},
		{"a line that ends on a point", line(3, 3, 5, 4), []int{1}},
		{"a line that touches a line's end", line(10, 30, 15, 35), []int{8}},
		{"a line along a line", line(2, 30, 30, 30), []int{8}},
		{"a line that crosses between whole points", line(0, 1, 9, 10), []int{6, mostId}},
		{"a line along the area's edge, outside", line(10, 1, 10, 20), []int{mostId}},
		{"lines, the second one", lines(row(90, 90, 91, 91), row(30, 5, 40, 5)), []int{8}},
		{"an area around all", area(square(-50, -50, 200)), []int{1, 4, 6, 8, mostId}},
		{"an area in the hole", area(square(3, 3, 2)), []int{1, 6}},
		{"an area that touches at a corner", area(square(20, 20, 5)), []int{4}},
		{"an area that touches along an edge", area(square(30, 2, 5)), []int{8}},
		{"an area with all in its hole", area(square(-50, -50, 200), hole(-10, -10, 60)), nil},
		{"an area whose hole's edge touches", area(square(-50, -50, 200), row(-10, -10, -10, 40, 30, 40, 30, -10)), []int{8}},
		{"all of them", lines(row(3, 3, 0, 0, 0, 30), row(5, 5, 6, 6)), []int{1, 4, 6, 8, mostId}},
		{"nothing near", line(50, 50, 60, 51), nil},
	} {
		checkIds(t, c.what, impl.Meeting(m, c.of), c.want)
		checkIds(t, c.what+", by the tests' own reckoning", w.meeting(m, c.of), c.want)
	}
	for what, s := range wrongShapes() {
		checkIds(t, "Meeting of a shape that is not good: "+what, impl.Meeting(m, s), nil)
	}
}

func TestCoveredByByExample(t *testing.T) {
	t.Parallel()
	m := []impl.Entry{
		entry(1, point(1, 1)),
		entry(2, point(0, 5)),
		entry(3, point(4, 4)),
		entry(4, point(2, 3)),
		entry(5, points(0, 0, 10, 10, 1, 9)),
		entry(6, points(1, 1, 4, 4)),
		entry(7, line(0, 0, 10, 0)),
		entry(8, line(10, 2, 10, 10, 0, 10)),
		entry(9, line(10, 2, 10, 11)),
		entry(10, line(2, 2, 2, 6)),
		entry(11, line(2, 2, 6, 6)),
		entry(12, line(1, 1, 9, 1, 9, 9, 1, 9, 1, 1)),
		entry(13, line(1, 3, 7, 3)),
		entry(14, lines(row(0, 0, 2, 2), row(7, 7, 8, 8))),
		entry(15, lines(row(0, 0, 2, 2), row(9, 9, 11, 11))),
		entry(16, area(square(7, 7, 1))),
		entry(17, area(square(0, 0, 10), hole(2, 2, 4))),
		entry(18, area(row(0, 0, 1, 0, 0, 1))),
		entry(19, line(0, 0, 0, 10)),
		entry(20, line(6, 2, 6, 6, 2, 6)),
		entry(21, line(0, 8, 8, 0)),
		entry(22, point(11, 11)),
	}
	for _, c := range []asked[impl.Shape]{
		{"a plot with a hole", plot(), []int{1, 2, 4, 5, 7, 8, 10, 12, 14, 19, 20}},
		{"without the hole", area(square(0, 0, 10)), []int{1, 2, 3, 4, 5, 6, 7, 8, 10, 11, 12, 13, 14, 19, 20, 21}},
		{"what the hole is", area(square(2, 2, 4)), []int{3, 4, 10, 11, 20}},
		{"all there is", area(row(-most, -most, most, -most, most, most, -most, most)), []int{1, 2, 3, 4, 5, 6, 7, 8, 9, 10, 11, 12, 13, 14, 15, 19, 20, 21, 22}},
		{"far away", area(square(50, 50, 5)), nil},
		{"a corner of it", area(row(0, 0, 2, 0, 0, 2)), []int{1}},
		{"turned wrongly", area(hole(0, 0, 10)), nil},
		{"a line around", line(0, 0, 10, 0, 10, 10, 0, 10, 0, 0), nil},
		{"points", points(1, 1, 0, 5), nil},
		{"a point", point(1, 1), nil},
		{"lines", lines(row(0, 0, 10, 0)), nil},
		{"the zero Shape", impl.Shape{}, nil},
	} {
		checkIds(t, c.what, impl.CoveredBy(m, c.of), c.want)
		checkIds(t, c.what+", by the tests' own reckoning", wantCoveredBy(m, c.of), c.want)
	}
	for what, s := range wrongShapes() {
		checkIds(t, "CoveredBy of a shape that is not good: "+what, impl.CoveredBy(m, s), nil)
	}
}

func TestMeetingAndCoveredByChance(t *testing.T) {
	t.Parallel()
	d := &dice{1605}
	w := wantMeet{}
	met, covered := 0, 0
	for what, m := range inOrder(mapsToAsk()) {
		asks := []impl.Shape{{}, plot(), crown()}
		for _, kind := range allKinds() {
			asks = append(asks, d.nearShape(kind), d.nearShape(kind), d.greatShape(kind), d.shape())
		}
		for i, e := range m {
			if i < 3 {
				asks = append(asks, e.Shape)
			}
		}
		for _, s := range asks {
			want := w.meeting(m, s)
			checkIds(t, fmt.Sprint("Meeting of ", what, s), impl.Meeting(m, s), want)
			wantIn := wantCoveredBy(m, s)
			checkIds(t, fmt.Sprint("CoveredBy of ", what, s), impl.CoveredBy(m, s), wantIn)
			met, covered = met+len(want), covered+len(wantIn)
		}
	}
	if met < 500 || covered < 100 {
		t.Error("the test itself is wrong:", met, covered)
	}
}

func TestNearestByExample(t *testing.T) {
	t.Parallel()
	m := []impl.Entry{
		entry(2, point(3, 4)),
		entry(5, line(-5, 3, 5, 3)),
		entry(9, area(row(10, 0, 20, 0, 10, 10))),
		entry(12, area(square(-20, -20, 40), hole(-10, -10, 20))),
	}
	for _, c := range []struct {
		p    impl.Pt
		k    int
		want []int
	}{
		{pt(0, 0), 1, []int{5}},
		{pt(0, 0), 2, []int{5, 2}},
		{pt(0, 0), 3, []int{5, 2, 9}},
		{pt(0, 0), 4, []int{5, 2, 9, 12}},
		{pt(0, 0), 5, []int{5, 2, 9, 12}},
		{pt(0, 0), math.MaxInt, []int{5, 2, 9, 12}},
		{pt(0, 0), 0, nil},
		{pt(0, 0), -1, nil},
		{pt(0, 0), math.MinInt, nil},
		{pt(11, 1), 9, []int{9, 12, 5, 2}},
		{pt(3, 4), 4, []int{2, 5, 12, 9}},
		{pt(25, 0), 2, []int{9, 12}},
		{pt(most, 0), 2, []int{9, 12}},
		{pt(most+1, 0), 2, nil},
		{pt(0, -most-1), 2, nil},
		{pt(math.MinInt, math.MaxInt), 2, nil},
	} {
		checkIds(t, fmt.Sprint("Nearest to ", c.p, c.k), impl.Nearest(m, c.p, c.k), c.want)
		checkIds(t, fmt.Sprint("NearestBy to ", c.p, c.k), impl.NearestBy(impl.IndexOf(m), m, c.p, c.k), c.want)
	}
	for _, p := range wrongPts() {
		checkIds(t, "Nearest to no point", impl.Nearest(m, p, 3), nil)
		checkIds(t, "NearestBy to no point", impl.NearestBy(impl.IndexOf(m), m, p, 3), nil)
	}
}

// alike are shapes that are all 5 from 0, 0: some by a corner, some by a side, some with 0, 0 in their box.
func alike() []impl.Shape {
	return []impl.Shape{
		point(3, 4), point(-3, 4), point(3, -4), point(-3, -4), point(4, 3), point(-5, 0), point(0, 5), point(0, -5),
		points(9, 9, 5, 0, -8, 8), line(5, -9, 5, 9), line(-9, -5, 9, -5), line(3, 4, 9, 9), line(-25, 0, -5, 0),
		line(-10, 5, 10, 5), line(5, -20, 5, 20, -20, 20, -20, 6, -6, 6), lines(row(9, 9, 8, 8), row(-5, -3, -5, 3)),
		line(7, 1, -1, 7), line(-7, -1, 1, -7),
		area(square(5, -2, 4)), area(row(-3, 4, 3, 9, -9, 9)), area(square(-30, -30, 60), hole(-5, -5, 10)), area(row(-20, -20, -5, -20, -5, 20, -20, 20)),
	}
}

// Shapes as far as one another: the lesser Id first, at each place of the row and at its end.
func TestNearestOfShapesAsFarAsOneAnother(t *testing.T) {
	t.Parallel()
	d := &dice{1606}
	for _, s := range alike() {
		if wantDist(s, pt(0, 0)).Cmp(big.NewRat(25, 1)) != 0 || !good(s) {
			t.Fatal("the test itself is wrong:", s)
		}
	}
	for round := range 12 {
		// Nearer ones ahead of them, some of which are alike as well, and others behind.
		near := []impl.Shape{point(0, 0), area(square(-3, -3, 6)), point(1, 1), point(-1, 1), line(3, -9, 3, 9), line(2, -4, 6, 4)}[:round%7]
		far := []impl.Shape{point(5, 1), point(-1, -5), line(6, -9, 6, 9), point(most, most)}[:round%5]
		m := d.spread(mixed(d, slices.Concat(near, alike(), far))...)
		if round == 0 {
			m = d.spread(alike()...)
		}
		checkNearest(t, "many alike", m, indexesFor(t, d, m), []impl.Pt{{}}, idsFrom(1, len(m)+1, 1))
	}
	m := mapOf(1, alike()...)
	for k := range len(m) + 1 {
		want := idsFrom(1, k, 1)
		checkIds(t, "the first of all alike", impl.Nearest(m, pt(0, 0), k), want)
		for how, n := range indexesFor(t, d, m) {
			checkIds(t, "the first of all alike, "+how, impl.NearestBy(n, m, pt(0, 0), k), want)
		}
	}
}

// Shapes that a point lies on or in are all 0 from it.
func TestNearestOfShapesThatHaveThePoint(t *testing.T) {
	t.Parallel()
	d := &dice{1607}
	on := []impl.Shape{point(5, 5), area(square(0, 0, 10)), line(0, 0, 9, 9), area(square(5, 5, 7)), points(1, 1, 5, 5), area(square(0, 0, 10), hole(1, 1, 4)), lines(row(0, 5, 3, 5), row(4, 6, 6, 4)), area(square(4, 4, 2))}
	off := []impl.Shape{point(5, 6), area(square(0, 0, 10), hole(4, 4, 2)), line(0, 6, 9, 6), line(4, 5, 5, 4), area(square(6, 6, 2)), line(0, 1, 9, 9)}
	for range 8 {
		m := d.spread(mixed(d, slices.Concat(on, off))...)
		var want []int
		for _, e := range m {
			if wantHas(e.Shape, pt(5, 5)) {
				want = append(want, e.Id)
			}
		}
		if len(want) != len(on) {
			t.Fatal("the test itself is wrong:", want)
		}
		for k := range len(on) + 1 {
			checkIds(t, "all 0", impl.Nearest(m, pt(5, 5), k), want[:k])
		}
		checkNearest(t, "all 0", m, indexesFor(t, d, m), []impl.Pt{pt(5, 5)}, idsFrom(1, len(m), 1))
	}
}

// Distances whose squares are fractions, so close that no float tells them apart.
func TestNearestOfFractionsCloseToOneAnother(t *testing.T) {
	t.Parallel()
	d := &dice{1608}
	var shapes []impl.Shape
	// The square of the distance from 0, 0 is n n / (4 n n + 1): the greater n, the greater it is.
	for i := range 12 {
		n := most - i
		shapes = append(shapes, line(-n, 1, n, 0))
		if i%3 == 0 {
			shapes = append(shapes, line(n, 1, -n, 0), lines(row(-n, -1, n, 0)))
		}
	}
	floats := map[float64]bool{}
	for _, s := range shapes {
		f, _ := wantDist(s, pt(0, 0)).Float64()
		floats[f] = true
	}
	if len(floats) != 1 {
		t.Fatal("the test itself is wrong:", floats)
	}
	for range 6 {
		m := d.spread(mixed(d, slices.Concat(shapes, []impl.Shape{point(1, 0), point(0, 0), line(-1, 0, 0, 1)}))...)
		checkNearest(t, "close fractions", m, indexesFor(t, d, m), []impl.Pt{{}, pt(1, 0), pt(-3, 1), pt(0, 1)}, idsFrom(1, len(m), 1))
	}
	// Areas of which the sides are as close.
	shapes = nil
	for i := range 6 {
		n := most - i
		shapes = append(shapes, area(row(-n, 1, n, 0, n, most)), line(n-1, 1, 1-n, 0))
	}
	m := d.spread(mixed(d, shapes)...)
	checkNearest(t, "close sides", m, indexesFor(t, d, m), []impl.Pt{{}, pt(0, -1)}, idsFrom(1, len(m), 1))
}

// A box may be far nearer than its shape: what is nearest comes late out of the tree.
func TestNearestOfShapesFarFromTheirBoxes(t *testing.T) {
	t.Parallel()
	d := &dice{1609}
	var shapes []impl.Shape
	for i := range 20 {
		far := 40 + 3*i
		shapes = append(shapes, line(-far, -far, far, -far, far, far), area(square(-far, -far, 2*far), hole(1-far, 1-far, 2*far-2)), points(-far, far, far, -far), line(0, far, far, 0))
		shapes = append(shapes, point(far+1, 0), point(0, -far-2))
	}
	m := d.spread(mixed(d, shapes)...)
	checkNearest(t, "far from their boxes", m, indexesFor(t, d, m), []impl.Pt{{}, pt(50, 50), pt(-30, 10)}, []int{1, 2, 5, 20, 100, 119, 120, 121})
}

func TestIndexesOfMaps(t *testing.T) {
	t.Parallel()
	d := &dice{1610}
	for _, count := range []int{0, 1, 2, 3, 4, 5, 16, 17, 64, 65, 499, 500} {
		for _, one := range []func(int) impl.Shape{d.farShape, d.greatShape, func(int) impl.Shape { return point(d.below(5), d.below(5)) }} {
			m := d.spread(shapesOf(count, one)...)
			got := impl.IndexOf(m)
			if want := wantTreeBuild(boxesOf(m)); !sameNode(got, want) {
				t.Fatalf("IndexOf of %d: %s, not %s", count, shortNode(got), shortNode(want))
			}
			var ids []int
			var boxes []impl.Box
			for _, e := range m {
				ids, boxes = append(ids, e.Id), append(boxes, impl.ShapeBox(e.Shape))
			}
			if built, ok := impl.TreeBuild(ids, boxes); !ok || !sameNode(got, built) {
				t.Fatal("is not what TreeBuild answers:", count)
			}
			if list := impl.TreeIds(got); len(list) != count {
				t.Fatal("Ids:", count, list)
			}
		}
	}
	for what, m := range mapsToAsk() {
		if got, want := impl.IndexOf(m), wantTreeBuild(boxesOf(m)); !sameNode(got, want) {
			t.Fatalf("IndexOf of %s: %s, not %s", what, shortNode(got), shortNode(want))
		}
	}
	for what, m := range wrongMaps() {
		if got := impl.IndexOf(m); !sameNode(got, impl.Node{}) {
			t.Error("IndexOf of no map:", what, shortNode(got))
		}
	}
}

func TestNothingIsAskedOfWrongMaps(t *testing.T) {
	t.Parallel()
	for what, m := range inOrder(wrongMaps()) {
		var right []impl.Entry
		for _, e := range m {
			if wantMapOk(append(right, e)) {
				right = append(right, e)
			}
		}
		all := area(row(-most, -most, most, -most, most, most, -most, most))
		checkIds(t, "Window of "+what, impl.Window(m, world()), nil)
		checkIds(t, "Meeting of "+what, impl.Meeting(m, all), nil)
		checkIds(t, "CoveredBy of "+what, impl.CoveredBy(m, all), nil)
		checkIds(t, "Nearest of "+what, impl.Nearest(m, pt(1, 2), 600), nil)
		for _, n := range []impl.Node{{}, impl.IndexOf(right), wantTreeBuild(boxesOf(m)[:min(len(m), mostTree)])} {
			checkIds(t, "WindowBy of "+what, impl.WindowBy(n, m, world()), nil)
			checkIds(t, "NearestBy of "+what, impl.NearestBy(n, m, pt(1, 2), 600), nil)
		}
		for _, other := range [][]impl.Entry{nil, right, mapOf(1, all)} {
			if got := impl.Pairs(m, other); len(got) > 0 {
				t.Error("Pairs of", what, got)
			}
			if got := impl.Pairs(other, m); len(got) > 0 {
				t.Error("Pairs with", what, got)
			}
		}
		if got := impl.Pairs(m, m); len(got) > 0 {
			t.Error("Pairs of", what, "with itself:", got)
		}
	}
}

// checkNoIndex: n is no index of m, which has a shape or more.
func checkNoIndex(t *testing.T, what string, n impl.Node, m []impl.Entry) {
	t.Helper()
	p := m[0].Shape.Rings[0][0]
	for _, b := range []impl.Box{world(), impl.ShapeBox(m[0].Shape), {Lo: p, Hi: p}} {
		checkIds(t, "WindowBy of what is no index: "+what, impl.WindowBy(n, m, b), nil)
	}
	for _, k := range []int{1, len(m), 1000} {
		checkIds(t, "NearestBy of what is no index: "+what, impl.NearestBy(n, m, p, k), nil)
	}
}

// checkIndex: n is an index of m.
func checkIndex(t *testing.T, what string, n impl.Node, m []impl.Entry) {
	t.Helper()
	indexes := map[string]impl.Node{what: n}
	checkWindows(t, what, m, indexes, []impl.Box{world(), box(0, 0, 5, 5), box(1, 1, 1, 1)})
	checkNearest(t, what, m, indexes, []impl.Pt{{}, pt(4, 4)}, []int{1, 3, len(m)})
}

// mapsWithIndexes have shapes of which no two have the same box.
func mapsWithIndexes() map[string][]impl.Entry {
	d := &dice{1611}
	var many []impl.Shape
	for i := range 50 {
		many = append(many, moved(d.nearShape(1+i%5), 20*i, i))
	}
	return map[string][]impl.Entry{
		"one":    mapOf(4, line(0, 0, 5, 5)),
		"two":    mapOf(4, plot(), point(3, 3)),
		"a leaf": mapOf(4, plot(), point(3, 3), line(0, 0, 5, 6), point(0, 0)),
		"five":   mapOf(1, plot(), point(3, 3), line(0, 0, 5, 6), points(1, 1, 9, 9), point(0, 0)),
		"many":   d.spread(many...),
	}
}

// What is no index, each for a reason of its own.
func TestWhatIsNoIndex(t *testing.T) {
	t.Parallel()
	for name, m := range inOrder(mapsWithIndexes()) {
		list := boxesOf(m)
		right := impl.IndexOf(m)
		checkIndex(t, name, right, m)
		free := m[len(m)-1].Id + 1
		other := box(-70, -70, -60, -60)
		// Of each wrong list there is a tree that is right as a tree.
		try := func(what string, wrong []idBox) {
			t.Helper()
			for _, n := range []impl.Node{wantTreeBuild(wrong), grown(t, impl.Node{}, wrong)} {
				if !impl.TreeOk(n) {
					t.Fatal("the test itself is wrong:", name, what)
				}
				checkNoIndex(t, name+": "+what, n, m)
			}
		}
		try("no Ids", nil)
		try("an Id more", append(slices.Clone(list), with(free, other)))
		try("an Id of 0 more", append(slices.Clone(list), with(0, other)))
		try("an Id more, ahead", append([]idBox{with(-1, other)}, list...))
		for i, b := range list {
			without := slices.Delete(slices.Clone(list), i, i+1)
			try("one less", without)
			try("one twice", append(slices.Clone(list), b))
			try("an Id twice, with another Box", append(slices.Clone(list), with(b.id, other)))
			try("an Id that the map has not", append(slices.Clone(without), with(free, b.box)))
			try("an Id that no map has", append(slices.Clone(without), with(-b.id, b.box)))
			for _, off := range [][4]int{{-1, 0, 0, 0}, {0, -1, 0, 0}, {0, 0, 1, 0}, {0, 0, 0, 1}, {9, 9, 9, 9}} {
				wrong := slices.Clone(list)
				wrong[i].box = box(b.box.Lo.X+off[0], b.box.Lo.Y+off[1], b.box.Hi.X+off[2], b.box.Hi.Y+off[3])
				try("a Box that is not the shape's", wrong)
			}
			if i == 0 {
				continue
			}
			ahead := list[i-1]
			try("one twice, another one not", append(slices.Clone(without), ahead))
			try("one twice, another one not, with its Box", append(slices.Clone(without), with(ahead.id, b.box)))
			try("a Box that is another shape's", slices.Concat(list[:i-1], []idBox{with(ahead.id, b.box), with(b.id, ahead.box)}, list[i+1:]))
			try("the Box of another shape, too", slices.Concat(list[:i], []idBox{with(b.id, ahead.box)}, list[i+1:]))
		}
	}
}

func TestTreesThatAreNoTreesAreNoIndex(t *testing.T) {
	t.Parallel()
	for name, m := range mapsWithIndexes() {
		right := impl.IndexOf(m)
		for _, way := range waysIn(right) {
			here := nodeAt(right, way)
			faults := leafFaults(here, len(way) == 0)
			if len(here.Kids) > 0 {
				faults = innerFaults(here, len(way) == 0)
			}
			for what, wrong := range faults {
				n := nodeWith(right, way, wrong)
				if impl.TreeOk(n) {
					t.Fatal("the test itself is wrong:", name, what)
				}
				checkNoIndex(t, name+": "+what, n, m)
			}
		}
		within := make([]impl.Node, 1)
		within[0] = impl.Node{Box: right.Box, Kids: within}
		checkNoIndex(t, name+": a Node within itself", within[0], m)
	}
}

// The map may be another one than that of the index.
func TestIndexesOfOtherMaps(t *testing.T) {
	t.Parallel()
	for name, m := range inOrder(mapsWithIndexes()) {
		n := impl.IndexOf(m)
		checkNoIndex(t, name+": one more", n, append(slices.Clone(m), entry(mostId, point(1, 1))))
		for i := range m {
			if len(m) > 1 {
				checkNoIndex(t, name+": one less", n, slices.Delete(slices.Clone(m), i, i+1))
			}
			another := slices.Clone(m)
			another[i].Shape = point(-77, -77)
			checkNoIndex(t, name+": another shape", n, another)
			b := impl.ShapeBox(m[i].Shape)
			if b.Lo == b.Hi {
				another[i].Shape = points(b.Lo.X, b.Lo.Y, b.Lo.X, b.Lo.Y)
			} else {
				another[i].Shape = line(b.Lo.X, b.Hi.Y, b.Hi.X, b.Lo.Y)
			}
			checkIndex(t, name+": another shape with this box", n, another)
		}
	}
	if len(impl.WindowBy(impl.Node{}, nil, world())) > 0 || len(impl.NearestBy(impl.Node{}, nil, pt(0, 0), 5)) > 0 {
		t.Error("an empty map")
	}
	if n := grown(t, impl.Node{}, []idBox{at(1, 1, 1)}); len(impl.WindowBy(n, nil, world())) > 0 || len(impl.NearestBy(n, nil, pt(0, 0), 5)) > 0 {
		t.Error("an empty map, and a tree that has something")
	}
}

// Shapes that have the same box: their Ids may stand in any order.
func TestIndexesOfShapesWithOneBox(t *testing.T) {
	t.Parallel()
	d := &dice{1612}
	m := mapOf(3, line(0, 0, 6, 6), line(0, 6, 6, 0), points(0, 0, 6, 6), area(row(0, 0, 6, 0, 6, 6)), area(square(0, 0, 6)), line(0, 6, 6, 0), area(square(0, 0, 6), hole(1, 1, 4)))
	for range 10 {
		list := mixed(d, boxesOf(m))
		checkIndex(t, "one box", grown(t, impl.Node{}, list), m)
		checkIndex(t, "one box", wantTreeBuild(list), m)
		list[0].id = list[1].id
		checkNoIndex(t, "one box, one Id twice", grown(t, impl.Node{}, list), m)
	}
	checkIds(t, "by the index", impl.WindowBy(impl.IndexOf(m), m, box(2, 4, 2, 4)), []int{4, 7, 8})
	checkIds(t, "by the index, in a corner", impl.WindowBy(impl.IndexOf(m), m, box(6, 6, 9, 9)), []int{3, 5, 6, 7, 9})
}

// A tree may have Nodes of one Kid, very many on the way to a leaf.
func TestDeepIndexes(t *testing.T) {
	t.Parallel()
	m := mapOf(1, plot(), point(3, 3), line(0, 0, 5, 6))
	checkIndex(t, "deep", onKid(impl.IndexOf(m), 50000), m)
}

func checkPairs(t *testing.T, what string, a, b []impl.Entry, want [][2]int) {
	t.Helper()
	if got := impl.Pairs(a, b); !slices.Equal(got, want) {
		t.Fatalf("Pairs of %s: %d %s, not %d %s", what, len(got), shortList(got), len(want), shortList(want))
	}
}

func TestPairsByExample(t *testing.T) {
	t.Parallel()
	a := []impl.Entry{entry(3, plot()), entry(7, line(0, 20, 20, 0)), entry(9, point(4, 4))}
	b := []impl.Entry{entry(1, point(20, 0)), entry(3, line(0, 10, 30, 10)), entry(8, point(4, 4)), entry(9, area(square(-10, -10, 100))), entry(20, point(0, 0))}
	checkPairs(t, "two maps", a, b, [][2]int{{3, 3}, {3, 9}, {3, 20}, {7, 1}, {7, 3}, {7, 9}, {9, 8}, {9, 9}})
	checkPairs(t, "the other way", b, a, [][2]int{{1, 7}, {3, 3}, {3, 7}, {8, 9}, {9, 3}, {9, 7}, {9, 9}, {20, 3}})
	checkPairs(t, "one with itself", a, a, [][2]int{{3, 3}, {3, 7}, {7, 3}, {7, 7}, {9, 9}})
	checkPairs(t, "none with one", nil, b, nil)
	checkPairs(t, "one with none", a, nil, nil)
	checkPairs(t, "none", nil, nil, nil)
	checkPairs(t, "shapes far apart", mapOf(1, point(0, 0), point(9, 9)), mapOf(1, point(1, 0), point(9, 8)), nil)
	checkPairs(t, "boxes that overlap, shapes that do not meet", mapOf(1, line(0, 0, 9, 9)), mapOf(1, line(1, 0, 9, 8), point(5, 4), area(square(0, 0, 9), row(1, 0, 8, 7, 8, 0)), line(0, 1, 8, 9)), nil)
	checkPairs(t, "greatest Ids", mapOf(mostId, point(1, 1)), mapOf(mostId, line(0, 0, 2, 2)), [][2]int{{mostId, mostId}})
}

func TestPairsByChance(t *testing.T) {
	t.Parallel()
	d := &dice{1613}
	w := wantMeet{}
	met := 0
	for i := range 30 {
		one := []func(int) impl.Shape{d.nearShape, d.farShape, d.greatShape}[i%3]
		a := d.spread(mixed(d, shapesOf(d.below(24), one))...)
		b := d.spread(mixed(d, shapesOf(d.below(24), one))...)
		want := w.pairs(a, b)
		met += len(want)
		checkPairs(t, "two maps by chance", a, b, want)
		checkPairs(t, "one with itself", a, a, w.pairs(a, a))
		for _, e := range a {
			var ids []int
			for _, pair := range want {
				if pair[0] == e.Id {
					ids = append(ids, pair[1])
				}
			}
			checkIds(t, "Meeting tells the pairs of one", impl.Meeting(b, e.Shape), ids)
		}
	}
	if met < 500 {
		t.Error("the test itself is wrong:", met)
	}
	for what, m := range mapsToAsk() {
		checkPairs(t, what, m, m, w.pairs(m, m))
	}
}

// allPairs are those of maps in which each shape meets each.
func allPairs(a, b []impl.Entry) [][2]int {
	var out [][2]int
	for _, e := range a {
		for _, other := range b {
			out = append(out, [2]int{e.Id, other.Id})
		}
	}
	return out
}

func TestAsManyPairsAsAreTold(t *testing.T) {
	t.Parallel()
	for _, c := range []struct{ a, b, want int }{
		{27, 37, 999}, {37, 27, 999}, {25, 40, 1000}, {40, 25, 1000}, {2, 500, 1000}, {500, 2, 1000}, {77, 13, 1000}, {13, 77, 1000}, {3, 500, 1000}, {500, 3, 1000}, {500, 500, 1000}, {1, 500, 500}, {500, 1, 500}, {32, 32, 1000}, {31, 33, 1000},
	} {
		a, b := dots(1, 2, idsFrom(5, c.a, 3)...), dots(1, 2, idsFrom(2, c.b, 2)...)
		want := allPairs(a, b)
		checkPairs(t, fmt.Sprint(c), a, b, want[:c.want])
		// Some that meet none, ahead, between and behind.
		a = slices.Concat(dots(7, 7, 1, 2, 3), a)
		if len(a) <= mostEntries {
			checkPairs(t, fmt.Sprint(c, " behind others"), a, b, want[:c.want])
		}
		if b = append(b, dots(8, 8, 5000, 5001)...); len(a) <= mostEntries && len(b) <= mostEntries {
			checkPairs(t, fmt.Sprint(c, " ahead of others"), a, b, want[:c.want])
		}
	}
	// The thousandth and the one behind it are of two Ids of the first map.
	a, b := dots(1, 2, 10, 20, 30), slices.Concat(dots(1, 2, idsFrom(1, 400, 1)...), dots(3, 3, 999))
	checkPairs(t, "three times 400", a, b, allPairs(a, b[:400])[:1000])
}

// queriedStores are stores with drafts of several pieces, whose maps have shapes of every kind.
func queriedStores(t *testing.T) map[string]impl.Store {
	t.Helper()
	const h = 60
	some := []impl.Change{put(1, point(3, 4)), put(2, plot()), put(5, line(-5, 3, 5, 3)), put(8, points(9, 9, 1, 1)), put(9, lines(row(0, 0, 3, 3), row(9, 0, 9, 9)))}
	fresh := newStore(t, h)
	first := committed(t, fresh, some...)
	return map[string]impl.Store{
		"a new one":        drafting(t, fresh, some...),
		"one piece":        drafting(t, first, drop(1)),
		"puts and drops":   drafting(t, first, put(3, crown()), drop(5), put(1, area(row(2, 2, 9, 3, 4, 8))), put(7, line(2, 2, 2, 9))),
		"all gone":         drafting(t, first, drop(1), drop(2), drop(5), drop(8), drop(9)),
		"all moved":        drafting(t, first, put(1, point(30, 40)), put(2, moved(plot(), 50, 50)), put(5, line(45, 3, 55, 3)), put(8, points(90, 90, 10, 10))),
		"compacted":        drafting(t, compacted(t, first), drop(2), put(12, area(square(-4, -4, 30), hole(0, 0, 3)))),
		"old records left": drafting(t, committed(t, compacted(t, compacted(t, committed(t, first, drop(8), put(3, plot())))), put(4, point(0, 9))), put(8, line(1, 1, 5, 2, 3, 7)), drop(3)),
	}
}

// checkAsked: what is asked of a map is what is asked of the one that it must be, by an index too.
func checkAsked(t *testing.T, what string, got, want []impl.Entry) {
	t.Helper()
	n := impl.IndexOf(got)
	for _, b := range []impl.Box{world(), box(0, 0, 4, 4), box(3, 4, 3, 4), box(40, 0, 60, 60), box(2, 2, 6, 6)} {
		ids := wantWindow(want, b)
		checkIds(t, fmt.Sprint("Window behind a crash: ", what, b), impl.Window(got, b), ids)
		checkIds(t, fmt.Sprint("WindowBy behind a crash: ", what, b), impl.WindowBy(n, got, b), ids)
	}
	for _, p := range row(0, 0, 4, 4, 50, 50) {
		ranked := wantRanked(want, p)
		for _, k := range []int{1, 2, 100} {
			checkIds(t, fmt.Sprint("Nearest behind a crash: ", what, p, k), impl.Nearest(got, p, k), ofRanked(ranked, k))
			checkIds(t, fmt.Sprint("NearestBy behind a crash: ", what, p, k), impl.NearestBy(n, got, p, k), ofRanked(ranked, k))
		}
	}
}

// A commit that is cut off leaves the map ahead or behind it, whole, and what is asked is asked of that.
func TestMapsBehindACommitThatIsCutOff(t *testing.T) {
	t.Parallel()
	d := &dice{1614}
	for what, s := range inOrder(queriedStores(t)) {
		done, code := checkCommit(t, s)
		if code != storeGood || sameEntries(done.Map, s.Map) {
			t.Fatal("the test itself is wrong:", what, code)
		}
		count := done.Log.Next - s.Log.Next
		sets := coinsFor(count, d)
		// Cut at each place: all that is ahead of it is kept, or all but it.
		for cut := range count + 1 {
			sets = append(sets, func(i int) bool { return i < cut }, func(i int) bool { return i != cut })
		}
		for range 30 {
			coins := d.bytes(count)
			sets = append(sets, func(i int) bool { return coins[i]&1 == 1 })
		}
		seen := map[bool]int{}
		for _, keep := range sets {
			all := true
			for i := range count {
				all = all && keep(i)
			}
			want := s.Map
			if all {
				want = done.Map
			}
			again := openedStore(t, cutCommit(s, keep))
			if !sameEntries(again.Map, want) {
				t.Fatalf("%s: behind the crash %s, not %s", what, shortList(again.Map), shortList(want))
			}
			checkAsked(t, what, again.Map, want)
			seen[all]++
		}
		if seen[true] == 0 || seen[false] == 0 {
			t.Error("the test itself is wrong:", what, seen)
		}
	}
}

// A map is asked behind each of many commits, some of them cut off by drawn coins.
func TestStoresAskedInTheLongRun(t *testing.T) {
	t.Parallel()
	d := &dice{1615}
	for range 4 {
		s := newStore(t, 120)
		want := []impl.Entry{}
		n := impl.Node{}
		for range 40 {
			var list []impl.Change
			for range 1 + d.below(3) {
				list = append(list, put(1+d.below(30), d.nearShape(1+d.below(5))))
			}
			full := drafting(t, s, list...)
			if len(want) > 0 {
				full = drafting(t, full, drop(want[d.below(len(want))].Id))
			}
			done, code := impl.Commit(full)
			if code != storeGood {
				s = compacted(t, s)
				continue
			}
			next := done
			if d.below(2) == 0 {
				writes := impl.LogWrites(s.Log, impl.PutChanges(full.Draft))
				coins := d.bytes(len(writes)/8 + 1)
				crashed := impl.Crash(impl.Disk{Bytes: s.Disk.Bytes, Queue: writes}, coins)
				next = openedStore(t, crashed)
			}
			if !sameEntries(next.Map, s.Map) && !sameEntries(next.Map, done.Map) {
				t.Fatal("neither the map ahead nor the one behind:", shortList(next.Map))
			}
			// The index follows the map by what is between.
			for _, c := range impl.Between(s.Map, next.Map) {
				if _, there := impl.Find(s.Map, c.Id); there {
					n, _ = impl.TreeTake(n, c.Id)
				}
				if c.Kind == impl.ChangePut {
					n, _ = impl.TreeAdd(n, c.Id, impl.ShapeBox(c.Shape))
				}
			}
			s, want = next, next.Map
			checkAsked(t, "in the long run", s.Map, want)
			indexes := map[string]impl.Node{"its own": n}
			checkWindows(t, "in the long run", s.Map, indexes, []impl.Box{world(), d.nearBox()})
			checkNearest(t, "in the long run", s.Map, indexes, []impl.Pt{d.near()}, []int{1, 3, 50})
		}
	}
}

// queryCase is what may be handed to all calls.
type queryCase struct {
	n    impl.Node
	m, o []impl.Entry
	s    impl.Shape
	b    impl.Box
	p    impl.Pt
	k    int
}

// queryAnswer is what a call told.
type queryAnswer struct {
	ids   []int
	pairs [][2]int
	n     impl.Node
}

func (a queryAnswer) same(b queryAnswer) bool {
	return slices.Equal(a.ids, b.ids) && slices.Equal(a.pairs, b.pairs) && sameNode(a.n, b.n)
}

func (a queryAnswer) spans() []span {
	return slices.Concat(spanOf(a.ids), spanOf(a.pairs), spansOf(a.n))
}

func queryCalls() map[string]func(c queryCase) queryAnswer {
	return map[string]func(c queryCase) queryAnswer{
		"Window":    func(c queryCase) queryAnswer { return queryAnswer{ids: impl.Window(c.m, c.b)} },
		"Meeting":   func(c queryCase) queryAnswer { return queryAnswer{ids: impl.Meeting(c.m, c.s)} },
		"CoveredBy": func(c queryCase) queryAnswer { return queryAnswer{ids: impl.CoveredBy(c.m, c.s)} },
		"Nearest":   func(c queryCase) queryAnswer { return queryAnswer{ids: impl.Nearest(c.m, c.p, c.k)} },
		"IndexOf":   func(c queryCase) queryAnswer { return queryAnswer{n: impl.IndexOf(c.m)} },
		"WindowBy":  func(c queryCase) queryAnswer { return queryAnswer{ids: impl.WindowBy(c.n, c.m, c.b)} },
		"NearestBy": func(c queryCase) queryAnswer { return queryAnswer{ids: impl.NearestBy(c.n, c.m, c.p, c.k)} },
		"Pairs":     func(c queryCase) queryAnswer { return queryAnswer{pairs: impl.Pairs(c.m, c.o)} },
	}
}

func queriesForMemory(t *testing.T) []queryCase {
	t.Helper()
	d := &dice{1616}
	var out []queryCase
	some := mapsToAsk()
	for _, what := range slices.Sorted(maps.Keys(some)) {
		m := some[what]
		out = append(out,
			queryCase{impl.IndexOf(m), m, m, plot(), box(0, 0, 9, 9), pt(3, 3), 4},
			queryCase{grown(t, impl.Node{}, boxesOf(m)), m, mapOf(1, plot()), d.nearShape(3), world(), pt(most, 0), 1000},
			queryCase{impl.Node{}, m, nil, impl.Shape{}, box(1, 0, 0, 0), pt(most+1, 0), 0})
	}
	wrong := wrongMaps()
	for _, what := range []string{"two alike", "the middle falls", "too many", "last, an area that crosses", "the zero Entry"} {
		out = append(out, queryCase{impl.IndexOf(mapOf(1, point(1, 2))), wrong[what], mapOf(1, point(1, 2)), area(hole(0, 0, 9)), world(), pt(1, 2), 3})
	}
	return out
}

func roomyQuery(c queryCase) (given queryCase, tell func() string) {
	given = c
	n, tellNode := roomyNode(c.n)
	m, tellMap, _ := roomyList(c.m, shapeOfEntry, entry(mostId, point(1, 1)))
	o, tellOther, _ := roomyList(c.o, shapeOfEntry, entry(mostId, plot()))
	s, points, all := roomyShape(c.s, pt(most+1, 5))
	given.n, given.m, given.o, given.s = n, m, o, s
	return given, func() string { return tellNode() + tellMap() + tellOther() + fmt.Sprint(points, all) }
}

// shortQuery is for a message.
func shortQuery(c queryCase) string { return shortList(c.m) + fmt.Sprint(c.s, c.b, c.p, c.k) }

func TestQueriesLeaveTheirArguments(t *testing.T) {
	t.Parallel()
	calls := queryCalls()
	for _, c := range queriesForMemory(t) {
		given, tell := roomyQuery(c)
		before := tell()
		for what, call := range calls {
			want := call(c)
			got := call(given)
			if !got.same(want) {
				t.Fatal(what, "looks at what lies behind:", shortQuery(c))
			}
			if tell() != before {
				t.Fatal(what, "changes an argument:", shortQuery(c))
			}
			others := slices.Concat(spansOf(given.n), spanOf(given.m), spanOf(given.o), want.spans())
			checkApartFrom(t, what, got.spans(), others)
			// What is written into an answer is seen nowhere else.
			clear(got.ids[:cap(got.ids)])
			clear(got.pairs[:cap(got.pairs)])
			clear(got.n.Kids)
			clear(got.n.Ids)
			clear(got.n.Boxes)
			if tell() != before || !call(given).same(want) {
				t.Fatal(what, "hands out what it was given, or kept:", shortQuery(c))
			}
		}
	}
}

// One map, one shape and one tree may be several arguments, and lie in one memory.
func TestQueriesOfArgumentsInOneMemory(t *testing.T) {
	t.Parallel()
	s := plot()
	m := mapOf(1, s, s, impl.Shape{Kind: impl.ShapeLines, Rings: s.Rings}, impl.Shape{Kind: impl.ShapePoints, Rings: s.Rings[:1]})
	checkIds(t, "Meeting", impl.Meeting(m, m[3].Shape), []int{1, 2, 3, 4})
	checkIds(t, "CoveredBy", impl.CoveredBy(m, m[0].Shape), []int{3, 4})
	checkPairs(t, "one with itself", m, m, allPairs(m, m))
	checkPairs(t, "parts of one", m[1:3], m[2:], allPairs(m[1:3], m[2:]))
	if !impl.SameShape(s, plot()) {
		t.Error("a shape was changed")
	}
}

// What was refused, or asked for ahead, leaves nothing behind; nor do calls at the same time.
func TestQueriesKeepNothing(t *testing.T) {
	t.Parallel()
	calls := queryCalls()
	tell := func(c queryCase) string {
		text := ""
		for _, what := range slices.Sorted(maps.Keys(calls)) {
			text += fmt.Sprint(calls[what](c))
		}
		return text
	}
	checkKeepsNothing(t, queriesForMemory(t), tell, shortQuery)
}
