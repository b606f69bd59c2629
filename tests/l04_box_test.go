package tests

import (
	"math"
	"math/big"
	"slices"
	"testing"

	"loop.example/g00108/impl"
)

func box(x, y, u, v int) impl.Box { return impl.Box{Lo: pt(x, y), Hi: pt(u, v)} }

// world is the greatest box that there is.
func world() impl.Box { return box(-most, -most, most, most) }

// box is now and then of no width or no height, and often at an edge of what there is.
func (d *dice) box() impl.Box {
	p, q := d.pt(), d.pt()
	switch d.below(6) {
	case 0:
		q.X = p.X
	case 1:
		q.Y = p.Y
	}
	return box(min(p.X, q.X), min(p.Y, q.Y), max(p.X, q.X), max(p.Y, q.Y))
}

// smallBoxes are all boxes with corners on the grid.
func smallBoxes() []impl.Box {
	var list []impl.Box
	for _, lo := range grid() {
		for _, hi := range grid() {
			if lo.X <= hi.X && lo.Y <= hi.Y {
				list = append(list, impl.Box{Lo: lo, Hi: hi})
			}
		}
	}
	return list
}

// wrongBoxes: each is no box, for a reason of its own.
func wrongBoxes() []impl.Box {
	list := []impl.Box{
		box(1, 0, 0, 0), box(0, 1, 0, 0), box(1, 1, 0, 0), box(3, -2, 2, 5), box(-2, 3, 5, 2),
		box(most, 0, -most, 0), box(0, most, 0, -most), box(most, most, -most, -most), box(most, -most, most-1, most), box(-most, most, most, most-1),
		box(-most-1, 0, 5, 5), box(0, -most-1, 5, 5), box(0, 0, most+1, 5), box(0, 0, 5, most+1),
		box(-most-1, -most, most, most), box(-most, -most-1, most, most), box(-most, -most, most+1, most), box(-most, -most, most, most+1),
		box(math.MinInt, 0, 5, 5), box(0, math.MinInt, 5, 5), box(0, 0, math.MaxInt, 5), box(0, 0, 5, math.MaxInt),
		box(math.MaxInt, 0, 5, 5), box(0, math.MaxInt, 5, 5), box(0, 0, math.MinInt, 5), box(0, 0, 5, math.MinInt),
		box(math.MinInt, math.MinInt, math.MaxInt, math.MaxInt), box(math.MaxInt, math.MaxInt, math.MinInt, math.MinInt),
		box(math.MinInt, 0, math.MaxInt, 0), box(0, math.MinInt, 0, math.MaxInt), box(math.MinInt, math.MinInt, 0, 0), box(0, 0, math.MaxInt, math.MaxInt),
	}
	for _, p := range wrongPts() {
		list = append(list, impl.Box{Lo: p, Hi: p}, impl.Box{Lo: p, Hi: pt(most, most)}, impl.Box{Lo: pt(-most, -most), Hi: p}, impl.Box{Lo: p}, impl.Box{Hi: p})
	}
	return list
}

// rightBoxes are boxes to stand beside a wrong one; 0, 0 is in some of them, not in others.
func rightBoxes() []impl.Box {
	d := &dice{41}
	list := []impl.Box{{}, world(), box(0, 0, 4, 2), box(2, 1, 3, 5), box(-4, -2, -1, -1), box(7, 7, 7, 7), box(7, 1, 7, 3), box(1, -7, 3, -7), box(most, most, most, most)}
	for range 10 {
		list = append(list, d.box())
	}
	return list
}

func TestBoxOk(t *testing.T) {
	for _, b := range append(rightBoxes(), box(-most, -most, -most, -most), box(-most, 0, most, 0), box(0, -most, 0, most), box(most-1, most-1, most, most), box(-3, -2, -1, 0)) {
		if !impl.BoxOk(b) {
			t.Error("is a box:", b)
		}
	}
	for _, b := range wrongBoxes() {
		if impl.BoxOk(b) {
			t.Error("is no box:", b)
		}
	}
}

func TestBoxOf(t *testing.T) {
	for _, c := range []struct {
		list []impl.Pt
		want impl.Box
	}{
		{[]impl.Pt{pt(0, 0)}, box(0, 0, 0, 0)}, {[]impl.Pt{pt(3, -4)}, box(3, -4, 3, -4)}, {[]impl.Pt{pt(3, -4), pt(3, -4)}, box(3, -4, 3, -4)},
		{[]impl.Pt{pt(4, 0), pt(0, 2), pt(1, 1)}, box(0, 0, 4, 2)}, {[]impl.Pt{pt(1, 1), pt(2, 3)}, box(1, 1, 2, 3)}, {[]impl.Pt{pt(2, 3), pt(1, 1)}, box(1, 1, 2, 3)},
		{[]impl.Pt{pt(1, 3), pt(2, 1)}, box(1, 1, 2, 3)}, {[]impl.Pt{pt(2, 1), pt(1, 3)}, box(1, 1, 2, 3)},
		{[]impl.Pt{pt(-5, -7), pt(-2, -9), pt(-3, -1)}, box(-5, -9, -2, -1)}, {[]impl.Pt{pt(5, 7), pt(5, 9), pt(5, 8)}, box(5, 7, 5, 9)}, {[]impl.Pt{pt(7, 5), pt(9, 5), pt(8, 5)}, box(7, 5, 9, 5)},
		{[]impl.Pt{pt(-1, 0), pt(1, 0), pt(0, -1), pt(0, 1), pt(0, 0)}, box(-1, -1, 1, 1)},
		{[]impl.Pt{pt(most, -most), pt(-most, most)}, world()}, {[]impl.Pt{pt(0, most), pt(most, 0), pt(0, -most), pt(-most, 0)}, world()}, {[]impl.Pt{pt(most, most)}, box(most, most, most, most)},
	} {
		if got, ok := impl.BoxOf(c.list); !ok || got != c.want {
			t.Error("BoxOf:", c.list, got, ok)
		}
	}
	d := &dice{42}
	for range rounds {
		var list []impl.Pt
		for range 1 + d.below(9) {
			list = append(list, d.pt())
		}
		byX := func(a, b impl.Pt) int { return a.X - b.X }
		byY := func(a, b impl.Pt) int { return a.Y - b.Y }
		want := box(slices.MinFunc(list, byX).X, slices.MinFunc(list, byY).Y, slices.MaxFunc(list, byX).X, slices.MaxFunc(list, byY).Y)
		if got, ok := impl.BoxOf(list); !ok || got != want {
			t.Error("BoxOf:", list, got, ok)
		}
	}
}

func TestBoxOfWrongLists(t *testing.T) {
	for _, list := range [][]impl.Pt{nil, {}, make([]impl.Pt, 0, 4)} {
		if got, ok := impl.BoxOf(list); ok || got != (impl.Box{}) {
			t.Error("BoxOf nothing:", got, ok)
		}
	}
	for _, w := range wrongPts() {
		for size := 1; size <= 4; size++ {
			for at := range size {
				list := []impl.Pt{pt(1, 2), pt(5, 3), pt(-2, 4), pt(0, 0)}[:size]
				list[at] = w
				if got, ok := impl.BoxOf(list); ok || got != (impl.Box{}) {
					t.Error("BoxOf, with one that is no point:", list, got, ok)
				}
			}
		}
	}
	// One of the wrong points would be right in X, the other in Y.
	if got, ok := impl.BoxOf([]impl.Pt{pt(1, most+1), pt(most+1, 1)}); ok || got != (impl.Box{}) {
		t.Error("BoxOf two that are no points:", got, ok)
	}
}

func TestBoxOfLeavesItsListAlone(t *testing.T) {
	d := &dice{43}
	for _, odd := range append(wrongPts(), pt(most, most), pt(-most, -most)) {
		for size := range 5 {
			room := []impl.Pt{d.pt(), d.pt(), d.pt(), d.pt(), odd, odd}
			before := slices.Clone(room)
			alone, fine := impl.BoxOf(slices.Clone(room[:size]))
			got, ok := impl.BoxOf(room[:size])
			if got != alone || ok != fine {
				t.Error("BoxOf looks behind its list:", room, size)
			}
			impl.BoxOf(room)
			if !slices.Equal(room, before) {
				t.Error("BoxOf changed its list:", before, room)
			}
		}
	}
}

func TestJoin(t *testing.T) {
	for _, c := range []struct {
		what       string
		a, b, want impl.Box
	}{
		{"apart, aside", box(0, 0, 4, 2), box(6, 1, 7, 2), box(0, 0, 7, 2)},
		{"apart, above", box(0, 0, 4, 2), box(1, 5, 3, 6), box(0, 0, 4, 6)},
		{"apart, both ways", box(0, 0, 4, 2), box(6, 5, 7, 8), box(0, 0, 7, 8)},
		{"apart, the other corner", box(0, 0, 4, 2), box(-6, 5, -3, 8), box(-6, 0, 4, 8)},
		{"below 0", box(-9, -8, -7, -6), box(-5, -4, -3, -2), box(-9, -8, -3, -2)},
		{"over one another", box(0, 0, 4, 2), box(3, 1, 6, 5), box(0, 0, 6, 5)},
		{"over one another as a cross", box(0, 3, 9, 4), box(3, 0, 4, 9), box(0, 0, 9, 9)},
		{"touching along a side", box(0, 0, 4, 2), box(4, 0, 6, 2), box(0, 0, 6, 2)},
		{"touching at a corner", box(0, 0, 4, 2), box(4, 2, 6, 3), box(0, 0, 6, 3)},
		{"one within", box(0, 0, 9, 9), box(2, 3, 4, 5), box(0, 0, 9, 9)},
		{"the same", box(1, 2, 3, 4), box(1, 2, 3, 4), box(1, 2, 3, 4)},
		{"a point within", box(1, 2, 3, 4), box(2, 3, 2, 3), box(1, 2, 3, 4)},
		{"a point apart", box(1, 2, 3, 4), box(9, 0, 9, 0), box(1, 0, 9, 4)},
		{"two points", box(1, 2, 1, 2), box(-3, 5, -3, 5), box(-3, 2, 1, 5)},
		{"a point twice", box(1, 2, 1, 2), box(1, 2, 1, 2), box(1, 2, 1, 2)},
		{"at nought", box(0, 0, 0, 0), box(5, 6, 7, 8), box(0, 0, 7, 8)},
		{"no width and no height", box(2, 0, 2, 5), box(0, 3, 4, 3), box(0, 0, 4, 5)},
		{"corners of all", box(-most, -most, -most, -most), box(most, most, most, most), world()},
		{"the other corners of all", box(-most, most, -most, most), box(most, -most, most, -most), world()},
		{"all", world(), box(1, 2, 3, 4), world()},
	} {
		if got := impl.Join(c.a, c.b); got != c.want {
			t.Error("Join:", c.what, got)
		}
		if got := impl.Join(c.b, c.a); got != c.want {
			t.Error("Join, the other way around:", c.what, got)
		}
	}
}

func TestOverlap(t *testing.T) {
	a := box(0, 0, 4, 2)
	for _, c := range []struct {
		what string
		a, b impl.Box
		want bool
	}{
		{"itself", a, a, true}, {"within", a, box(1, 1, 2, 1), true}, {"across the right side", a, box(3, 1, 6, 1), true}, {"across a corner", a, box(3, 1, 6, 5), true},
		{"across the left side", a, box(-3, 1, 1, 1), true}, {"across the side above", a, box(1, 1, 2, 9), true}, {"across the side below", a, box(1, -9, 2, 0), true},
		{"as a cross", box(0, 3, 9, 4), box(3, 0, 4, 9), true}, {"as a cross without width", box(0, 3, 9, 3), box(3, 0, 3, 9), true},
		{"touching the right side", a, box(4, 0, 6, 2), true}, {"one beyond it", a, box(5, 0, 6, 2), false},
		{"touching the left side", a, box(-2, 0, 0, 2), true}, {"one beyond it", a, box(-2, 0, -1, 2), false},
		{"touching the side above", a, box(0, 2, 4, 3), true}, {"one beyond it", a, box(0, 3, 4, 3), false},
		{"touching the side below", a, box(0, -2, 4, 0), true}, {"one beyond it", a, box(0, -2, 4, -1), false},
		{"touching at the corner right above", a, box(4, 2, 6, 3), true}, {"one aside", a, box(5, 2, 6, 3), false}, {"one above", a, box(4, 3, 6, 3), false}, {"one both ways", a, box(5, 3, 6, 3), false},
		{"touching at the corner left above", a, box(-6, 2, 0, 3), true}, {"one aside", a, box(-6, 2, -1, 3), false}, {"one above", a, box(-6, 3, 0, 3), false},
		{"touching at the corner right below", a, box(4, -3, 6, 0), true}, {"one aside", a, box(5, -3, 6, 0), false}, {"one below", a, box(4, -3, 6, -1), false},
		{"touching at the corner left below", a, box(-6, -3, 0, 0), true}, {"one aside", a, box(-6, -3, -1, 0), false}, {"one below", a, box(-6, -3, 0, -1), false},
		{"a point in it", a, box(2, 1, 2, 1), true}, {"a point on an edge", a, box(2, 2, 2, 2), true}, {"a point at a corner", a, box(4, 0, 4, 0), true}, {"a point beside it", a, box(5, 0, 5, 0), false},
		{"a point and itself", box(7, 7, 7, 7), box(7, 7, 7, 7), true}, {"two points", box(7, 7, 7, 7), box(7, 8, 7, 8), false},
		{"without width, aside of one another", box(1, 0, 1, 5), box(2, 0, 2, 5), false}, {"without width, above one another", box(1, 0, 1, 5), box(1, 6, 1, 9), false}, {"without width, touching", box(1, 0, 1, 5), box(1, 5, 1, 9), true},
		{"all and a corner", world(), box(most, -most, most, -most), true}, {"two corners", box(-most, -most, -most, -most), box(most, most, most, most), false},
		{"two halves of all", box(-most, -most, 0, most), box(0, -most, most, most), true}, {"two halves of all, one apart", box(-most, -most, 0, most), box(1, -most, most, most), false},
	} {
		if impl.Overlap(c.a, c.b) != c.want || impl.Overlap(c.b, c.a) != c.want {
			t.Error("Overlap is not", c.want, c.what, c.a, c.b)
		}
	}
}

func TestInBox(t *testing.T) {
	for _, b := range []impl.Box{box(-1, 2, 3, 5), box(1, -5, 3, -3), box(2, 2, 2, 2), box(2, -1, 2, 1), box(-1, 4, 1, 4)} {
		for x := b.Lo.X - 2; x <= b.Hi.X+2; x++ {
			for y := b.Lo.Y - 2; y <= b.Hi.Y+2; y++ {
				want := !(x < b.Lo.X || x > b.Hi.X || y < b.Lo.Y || y > b.Hi.Y)
				if impl.InBox(b, pt(x, y)) != want {
					t.Error("InBox is not", want, b, x, y)
				}
			}
		}
	}
	for _, p := range []impl.Pt{{}, pt(most, most), pt(-most, -most), pt(most, -most), pt(-most, most), pt(0, most), pt(-most, 0)} {
		if !impl.InBox(world(), p) {
			t.Error("is in all there is:", p)
		}
	}
	almost := box(1-most, 1-most, most-1, most-1)
	for _, p := range []impl.Pt{pt(most, 0), pt(-most, 0), pt(0, most), pt(0, -most), pt(most, most)} {
		if impl.InBox(almost, p) {
			t.Error("is one step outside:", p)
		}
	}
}

func TestInside(t *testing.T) {
	b := box(0, 0, 4, 3)
	for _, c := range []struct {
		what string
		a, b impl.Box
		want bool
	}{
		{"itself", b, b, true}, {"well within", box(1, 1, 2, 2), b, true}, {"around it", b, box(1, 1, 2, 2), false}, {"apart", box(6, 6, 7, 7), b, false},
		{"at the left edge", box(0, 1, 2, 2), b, true}, {"one beyond it", box(-1, 1, 2, 2), b, false},
		{"at the right edge", box(1, 1, 4, 2), b, true}, {"one beyond it", box(1, 1, 5, 2), b, false},
		{"at the edge below", box(1, 0, 2, 2), b, true}, {"one beyond it", box(1, -1, 2, 2), b, false},
		{"at the edge above", box(1, 1, 2, 3), b, true}, {"one beyond it", box(1, 1, 2, 4), b, false},
		{"on the left edge", box(0, 0, 0, 3), b, true}, {"on the edge above", box(0, 3, 4, 3), b, true}, {"a part of an edge and more", box(0, 3, 5, 3), b, false},
		{"wider, and in it in height", box(-1, 1, 5, 2), b, false}, {"higher, and in it in width", box(1, -1, 2, 4), b, false}, {"across a corner", box(3, 2, 6, 6), b, false},
		{"touching a side", box(4, 0, 6, 3), b, false}, {"touching a corner", box(4, 3, 6, 6), b, false},
		{"a point in it", box(2, 2, 2, 2), b, true}, {"a corner", box(4, 3, 4, 3), b, true}, {"one beyond the corner", box(5, 3, 5, 3), b, false},
		{"a point in itself", box(7, 7, 7, 7), box(7, 7, 7, 7), true}, {"in a point", b, box(2, 2, 2, 2), false}, {"another point", box(7, 7, 7, 7), box(7, 8, 7, 8), false},
		{"in one without width", box(1, 1, 1, 2), box(1, 0, 1, 3), true}, {"aside of one without width", box(2, 1, 2, 2), box(1, 0, 1, 3), false},
		{"all in itself", world(), world(), true}, {"a corner of all", box(most, -most, most, -most), world(), true}, {"all in less", world(), box(-most, -most, most, most-1), false}, {"all in less, aside", world(), box(1-most, -most, most, most), false},
	} {
		if impl.Inside(c.a, c.b) != c.want {
			t.Error("Inside is not", c.want, c.what, c.a, c.b)
		}
	}
}

func TestAreaMarginAndGrown(t *testing.T) {
	for _, c := range []struct {
		b            impl.Box
		area, margin int
	}{
		{box(0, 0, 4, 2), 8, 6}, {box(-3, -2, 4, 9), 77, 18}, {box(-9, -9, -7, -4), 10, 7}, {box(3, 3, 3, 3), 0, 0}, {box(0, 0, 0, 0), 0, 0}, {box(3, 1, 3, 6), 0, 5}, {box(1, 3, 6, 3), 0, 5}, {box(0, 0, 1, 1), 1, 2},
		{world(), 400000000000000, 40000000}, {box(-most, 0, most, 0), 0, 20000000}, {box(0, -most, 0, most), 0, 20000000}, {box(0, 0, most, most), 100000000000000, 20000000}, {box(-most, -most, most, most-1), 399999980000000, 39999999}, {box(most, most, most, most), 0, 0},
	} {
		if got := impl.BoxArea(c.b); got != c.area {
			t.Error("BoxArea:", c.b, got)
		}
		if got := impl.Margin(c.b); got != c.margin {
			t.Error("Margin:", c.b, got)
		}
	}
	for _, c := range []struct {
		a, b        impl.Box
		grown, back int
	}{
		{box(0, 0, 4, 2), box(4, 2, 6, 3), 10, 16}, {box(0, 0, 4, 2), box(1, 1, 2, 2), 0, 7}, {box(0, 0, 4, 2), box(0, 0, 4, 2), 0, 0}, {box(0, 0, 4, 2), box(-1, -1, -1, -1), 7, 15},
		{box(0, 0, 0, 0), box(3, 5, 3, 5), 15, 15}, {box(0, 0, 4, 2), box(6, 0, 8, 2), 8, 12}, {box(2, 0, 2, 5), box(0, 3, 4, 3), 20, 20},
		{box(-most, -most, -most, -most), box(most, most, most, most), 400000000000000, 400000000000000}, {world(), box(1, 1, 2, 2), 0, 399999999999999}, {world(), world(), 0, 0},
	} {
		if got := impl.Grown(c.a, c.b); got != c.grown {
			t.Error("Grown:", c.a, c.b, got)
		}
		if got := impl.Grown(c.b, c.a); got != c.back {
			t.Error("Grown, the other way around:", c.b, c.a, got)
		}
	}
}

func TestBoxGap(t *testing.T) {
	b := box(0, 0, 4, 2)
	for _, c := range []struct {
		b    impl.Box
		p    impl.Pt
		want int
	}{
		{b, pt(1, 1), 0}, {b, pt(0, 0), 0}, {b, pt(4, 2), 0}, {b, pt(4, 0), 0}, {b, pt(0, 2), 0}, {b, pt(4, 1), 0}, {b, pt(0, 1), 0}, {b, pt(2, 2), 0}, {b, pt(2, 0), 0},
		{b, pt(5, 1), 1}, {b, pt(-1, 1), 1}, {b, pt(2, 3), 1}, {b, pt(2, -1), 1}, {b, pt(7, 1), 9}, {b, pt(-5, 1), 25}, {b, pt(2, 9), 49}, {b, pt(2, -8), 64},
		{b, pt(7, 2), 9}, {b, pt(7, 0), 9}, {b, pt(4, 7), 25}, {b, pt(0, 7), 25}, {b, pt(-3, 2), 9}, {b, pt(0, -5), 25},
		{b, pt(7, 6), 25}, {b, pt(-2, 5), 13}, {b, pt(6, -5), 29}, {b, pt(-4, -1), 17}, {b, pt(5, 3), 2}, {b, pt(-1, 3), 2}, {b, pt(5, -1), 2}, {b, pt(-1, -1), 2},
		{box(3, 3, 3, 3), pt(3, 3), 0}, {box(3, 3, 3, 3), pt(6, 7), 25}, {box(3, 3, 3, 3), pt(0, 3), 9}, {box(3, 1, 3, 6), pt(3, 4), 0}, {box(3, 1, 3, 6), pt(5, 4), 4}, {box(3, 1, 3, 6), pt(4, 9), 10}, {box(1, 3, 6, 3), pt(4, 1), 4},
		{world(), pt(most, -most), 0}, {world(), pt(0, 0), 0}, {box(-most, -most, -most, -most), pt(most, most), 800000000000000}, {box(most, most, most, most), pt(-most, -most), 800000000000000},
		{box(most, -most, most, -most), pt(-most, most), 800000000000000}, {box(-most, -most, -most, most), pt(most, 0), 400000000000000}, {box(-most, most, most, most), pt(0, -most), 400000000000000}, {box(-most, -most, most-1, most-1), pt(most, most), 2},
	} {
		if got := impl.BoxGap(c.b, c.p); got != c.want {
			t.Error("BoxGap:", c.b, c.p, got)
		}
	}
}

// pointsIn are the points of the grid that lie in the box.
func pointsIn(b impl.Box) map[impl.Pt]bool {
	in := map[impl.Pt]bool{}
	for x := b.Lo.X; x <= b.Hi.X; x++ {
		for y := b.Lo.Y; y <= b.Hi.Y; y++ {
			in[pt(x, y)] = true
		}
	}
	return in
}

// TestAllSmallBoxes holds the calls against the points that boxes have: each way two can lie is among them.
func TestAllSmallBoxes(t *testing.T) {
	for _, a := range smallBoxes() {
		inA := pointsIn(a)
		for _, p := range grid() {
			if impl.InBox(a, p) != inA[p] {
				t.Fatal("InBox:", a, p)
			}
		}
		for x := -5; x <= 4; x++ {
			for y := -4; y <= 4; y++ {
				near := math.MaxInt
				for q := range inA {
					near = min(near, (x-q.X)*(x-q.X)+(y-q.Y)*(y-q.Y))
				}
				if got := impl.BoxGap(a, pt(x, y)); got != near {
					t.Fatal("BoxGap:", a, x, y, got)
				}
			}
		}
		for _, b := range smallBoxes() {
			checkSmallBoxes(t, a, b, inA, pointsIn(b))
		}
	}
}

func checkSmallBoxes(t *testing.T, a, b impl.Box, inA, inB map[impl.Pt]bool) {
	t.Helper()
	together, wholly := false, true
	var all []impl.Pt
	for p := range inA {
		together = together || inB[p]
		wholly = wholly && inB[p]
		all = append(all, p)
	}
	for p := range inB {
		all = append(all, p)
	}
	least, ok := impl.BoxOf(all)
	if impl.Overlap(a, b) != together || impl.Inside(a, b) != wholly || impl.Join(a, b) != least || !ok {
		t.Fatal("two boxes:", a, b, impl.Overlap(a, b), impl.Inside(a, b), impl.Join(a, b))
	}
	area := (least.Hi.X - least.Lo.X) * (least.Hi.Y - least.Lo.Y)
	if impl.Grown(a, b) != area-(a.Hi.X-a.Lo.X)*(a.Hi.Y-a.Lo.Y) {
		t.Fatal("Grown:", a, b, impl.Grown(a, b))
	}
}

// No smaller box than the join has both, on the grid.
func TestJoinIsTheLeast(t *testing.T) {
	for _, a := range smallBoxes() {
		for _, b := range smallBoxes() {
			all := impl.Join(a, b)
			for _, other := range smallBoxes() {
				if impl.Inside(a, other) && impl.Inside(b, other) && !impl.Inside(all, other) {
					t.Fatal("has both, but not their join:", a, b, all, other)
				}
			}
		}
	}
}

func TestBoxesLieInTheirJoin(t *testing.T) {
	d := &dice{44}
	for range rounds {
		a, b, c := d.box(), d.box(), d.box()
		all := impl.Join(a, b)
		if !impl.BoxOk(all) || !impl.Inside(a, all) || !impl.Inside(b, all) || impl.Join(b, a) != all {
			t.Error("Join:", a, b, all)
		}
		if impl.Join(impl.Join(a, b), c) != impl.Join(a, impl.Join(b, c)) || impl.Join(all, a) != all || impl.Join(a, a) != a {
			t.Error("Join of three:", a, b, c)
		}
		if (all == b) != impl.Inside(a, b) || (impl.Inside(a, b) && impl.Inside(b, a)) != (a == b) {
			t.Error("Inside:", a, b, all)
		}
		if of, ok := impl.BoxOf([]impl.Pt{a.Lo, b.Hi, b.Lo, a.Hi}); !ok || of != all {
			t.Error("BoxOf their corners:", a, b, of, ok)
		}
		if g := impl.Grown(a, b); g < 0 || g != impl.BoxArea(all)-impl.BoxArea(a) || impl.Inside(b, a) && g != 0 {
			t.Error("Grown:", a, b, g)
		}
		if impl.Margin(all) < impl.Margin(a) || impl.BoxArea(all) < impl.BoxArea(a) {
			t.Error("the join is smaller:", a, b)
		}
	}
}

// wantBoxGap is BoxGap by the library's reckoning: how far beyond an end p is, each way.
func wantBoxGap(b impl.Box, p impl.Pt) *big.Int {
	square := func(lo, hi, n int) *big.Int {
		off := big.NewInt(int64(max(lo-n, n-hi, 0)))
		return off.Mul(off, off)
	}
	x := square(b.Lo.X, b.Hi.X, p.X)
	return x.Add(x, square(b.Lo.Y, b.Hi.Y, p.Y))
}

func TestAGapIsNoughtJustInABox(t *testing.T) {
	d := &dice{45}
	var in int
	for range rounds {
		b, p := d.box(), d.pt()
		if d.below(4) == 0 {
			p.X = b.Lo.X
		}
		if d.below(4) == 0 {
			p.Y = b.Hi.Y
		}
		gap := impl.BoxGap(b, p)
		if big.NewInt(int64(gap)).Cmp(wantBoxGap(b, p)) != 0 {
			t.Error("BoxGap:", b, p, gap)
		}
		if (gap == 0) != impl.InBox(b, p) || impl.InBox(b, p) != impl.Overlap(b, impl.Box{Lo: p, Hi: p}) || impl.InBox(b, p) != impl.Inside(impl.Box{Lo: p, Hi: p}, b) {
			t.Error("the calls do not agree:", b, p, gap)
		}
		if gap == 0 {
			in++
		}
		// The square of the distance to the nearest edge, if p is outside.
		edges := [][2]impl.Pt{{b.Lo, pt(b.Hi.X, b.Lo.Y)}, {pt(b.Hi.X, b.Lo.Y), b.Hi}, {b.Hi, pt(b.Lo.X, b.Hi.Y)}, {pt(b.Lo.X, b.Hi.Y), b.Lo}}
		near := slices.MinFunc(edges, func(e, f [2]impl.Pt) int { return impl.CmpFrac(impl.Gap(p, e[0], e[1]), impl.Gap(p, f[0], f[1])) })
		if least := impl.FracText(impl.Gap(p, near[0], near[1])); gap > 0 && least != impl.NumText(impl.Of(gap)) {
			t.Error("BoxGap and Gap:", b, p, gap, least)
		}
	}
	if in < rounds/10 || in > rounds*9/10 {
		t.Error("the test itself is wrong: so many in their box:", in)
	}
}

func TestOverlapAgrees(t *testing.T) {
	d := &dice{46}
	for range rounds {
		a, b := d.box(), d.box()
		want := max(a.Lo.X, b.Lo.X) <= min(a.Hi.X, b.Hi.X) && max(a.Lo.Y, b.Lo.Y) <= min(a.Hi.Y, b.Hi.Y)
		if impl.Overlap(a, b) != want || impl.Overlap(b, a) != want || impl.Inside(a, b) && !want {
			t.Error("Overlap is not", want, a, b)
		}
	}
}

func TestWrongBoxesHaveNoPoints(t *testing.T) {
	for _, w := range wrongBoxes() {
		if impl.BoxArea(w) != 0 || impl.Margin(w) != 0 {
			t.Error("a size:", w, impl.BoxArea(w), impl.Margin(w))
		}
		for _, p := range []impl.Pt{{}, w.Lo, w.Hi, pt(w.Lo.X, w.Hi.Y), pt(1, 1), pt(3, 3), pt(most, most), pt(-most, -most)} {
			if impl.InBox(w, p) || impl.BoxGap(w, p) != -1 {
				t.Error("a point:", w, p)
			}
		}
		if impl.Overlap(w, w) || impl.Inside(w, w) {
			t.Error("with itself:", w)
		}
		for _, b := range rightBoxes() {
			if impl.Overlap(w, b) || impl.Overlap(b, w) || impl.Inside(w, b) || impl.Inside(b, w) {
				t.Error("with another one:", w, b)
			}
		}
	}
}

func TestWrongBoxesJoined(t *testing.T) {
	for _, w := range wrongBoxes() {
		for _, b := range rightBoxes() {
			if impl.Join(w, b) != b || impl.Join(b, w) != b {
				t.Error("Join:", w, b, impl.Join(w, b), impl.Join(b, w))
			}
			if impl.Grown(b, w) != 0 || impl.Grown(w, b) != impl.BoxArea(b) {
				t.Error("Grown:", w, b, impl.Grown(b, w), impl.Grown(w, b))
			}
		}
		for _, v := range wrongBoxes() {
			if impl.Join(w, v) != (impl.Box{}) || impl.Grown(w, v) != 0 {
				t.Fatal("two that are no boxes:", w, v, impl.Join(w, v), impl.Grown(w, v))
			}
			if impl.Overlap(w, v) || impl.Inside(w, v) {
				t.Fatal("two that are no boxes have a point:", w, v)
			}
		}
	}
	if impl.Grown(box(0, 0, most+1, 5), box(2, 3, 7, 6)) != 15 || impl.Grown(box(2, 3, 7, 6), box(0, 0, most+1, 5)) != 0 {
		t.Error("Grown, told in full")
	}
}

func TestWrongPointsAreInNoBox(t *testing.T) {
	for _, p := range wrongPts() {
		for _, b := range append(rightBoxes(), wrongBoxes()...) {
			if impl.InBox(b, p) || impl.BoxGap(b, p) != -1 {
				t.Error("a point that is none:", b, p, impl.InBox(b, p), impl.BoxGap(b, p))
			}
		}
		if impl.InBox(impl.Box{Lo: p, Hi: p}, p) || impl.BoxGap(impl.Box{Lo: p, Hi: p}, p) != -1 {
			t.Error("a point that is none, in a box of it:", p)
		}
	}
}
