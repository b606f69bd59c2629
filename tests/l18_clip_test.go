package tests

import (
	"fmt"
	"maps"
	"math"
	"math/big"
	"slices"
	"strings"
	"testing"

	"loop.example/g00108/impl"
)

func partsOf(p impl.Piece) [4]impl.Frac { return [4]impl.Frac{p.AX, p.AY, p.BX, p.BY} }

// numbersOf are the eight numbers of a piece, in their order.
func numbersOf(p impl.Piece) []impl.Num {
	var list []impl.Num
	for _, part := range partsOf(p) {
		list = append(list, part.N, part.D)
	}
	return list
}

// pieceText tells the numbers as they stand there: FracText would tell the same of 2/4 and of 1/2. The zero Piece is `0/0 0/0 0/0 0/0`.
func pieceText(p impl.Piece) string {
	var words []string
	for _, part := range partsOf(p) {
		word := impl.NumText(part.N)
		if by := impl.NumText(part.D); by != "1" {
			word += "/" + by
		}
		words = append(words, word)
	}
	return strings.Join(words, " ")
}

func pieceTexts(list []impl.Piece) string {
	var words []string
	for _, p := range list {
		words = append(words, pieceText(p))
	}
	return strings.Join(words, ", ")
}

// fracFrom is the fraction just as the text tells it: 2/4 is not 1/2.
func fracFrom(t *testing.T, text string) impl.Frac {
	t.Helper()
	n, d, _ := strings.Cut(text, "/")
	if d == "" {
		d = "1"
	}
	return impl.Frac{N: numOf(t, n), D: numOf(t, d)}
}

func pieceFrom(t *testing.T, text string) impl.Piece {
	t.Helper()
	w := strings.Fields(text)
	return impl.Piece{AX: fracFrom(t, w[0]), AY: fracFrom(t, w[1]), BX: fracFrom(t, w[2]), BY: fracFrom(t, w[3])}
}

// isZeroPiece: no D is 0 through 1.
func isZeroPiece(p impl.Piece) bool {
	return !slices.ContainsFunc(numbersOf(p), func(n impl.Num) bool { return n.Neg || len(n.Mag) > 0 })
}

func isWhole(a impl.Frac) bool { return sameNum(a.D, impl.Of(1)) }

// wantClip is Clip by the library's reckoning: the four numbers, or none.
func wantClip(a, b impl.Pt, in impl.Box) []*big.Rat {
	part := clipped(a, b, in)
	if part.lo.Cmp(part.hi) > 0 {
		return nil
	}
	return []*big.Rat{between(a.X, b.X, part.lo), between(a.Y, b.Y, part.lo), between(a.X, b.X, part.hi), between(a.Y, b.Y, part.hi)}
}

func wantClips(s impl.Shape, in impl.Box) [][]*big.Rat {
	var list [][]*big.Rat
	for _, seg := range wantSegments(s) {
		if want := wantClip(seg[0], seg[1], in); want != nil {
			list = append(list, want)
		}
	}
	return list
}

func checkPiece(t *testing.T, what string, got impl.Piece, want []*big.Rat) {
	t.Helper()
	for i, part := range partsOf(got) {
		checkFrac(t, what, part, want[i])
	}
}

// segmentShape is the segment as a shape: a point where both ends are the same.
func segmentShape(a, b impl.Pt) impl.Shape {
	if a == b {
		return shape(impl.ShapePoint, []impl.Pt{a})
	}
	return shape(impl.ShapeLine, []impl.Pt{a, b})
}

func cornersOf(b impl.Box) []impl.Pt {
	return []impl.Pt{b.Lo, pt(b.Hi.X, b.Lo.Y), b.Hi, pt(b.Lo.X, b.Hi.Y)}
}

func sidesOf(b impl.Box) [][2]impl.Pt {
	var list [][2]impl.Pt
	corners := cornersOf(b)
	for i, from := range corners {
		list = append(list, [2]impl.Pt{from, corners[(i+1)%4]})
	}
	return list
}

// checkWhere: a clip is there just where the segment meets the box, however that is asked.
func checkWhere(t *testing.T, a, b impl.Pt, in impl.Box, there bool) {
	t.Helper()
	if impl.MeetsBox(segmentShape(a, b), in) != there {
		t.Fatal("MeetsBox of its line:", a, b, in, there)
	}
	meets := impl.InBox(in, a) || impl.InBox(in, b)
	for _, side := range sidesOf(in) {
		meets = meets || impl.Meet(a, b, side[0], side[1])
	}
	if meets != there {
		t.Fatal("Meet of it and the sides:", a, b, in, there)
	}
	for _, corner := range cornersOf(in) {
		if impl.OnSeg(a, b, corner) && !there {
			t.Fatal("a corner of the box lies on it:", a, b, in)
		}
	}
}

// ratPt is a point between whole ones.
type ratPt [2]*big.Rat

func ratPtOf(p impl.Pt) ratPt { return ratPt{big.NewRat(int64(p.X), 1), big.NewRat(int64(p.Y), 1)} }

func (p ratPt) same(q ratPt) bool { return p[0].Cmp(q[0]) == 0 && p[1].Cmp(q[1]) == 0 }

// in is by the order of fractions.
func (p ratPt) in(b impl.Box) bool {
	lo, hi := ratPtOf(b.Lo), ratPtOf(b.Hi)
	return p[0].Cmp(lo[0]) >= 0 && p[0].Cmp(hi[0]) <= 0 && p[1].Cmp(lo[1]) >= 0 && p[1].Cmp(hi[1]) <= 0
}

// along is how far the way from a to b goes from p to q, times its length.
func (p ratPt) along(a, b impl.Pt, q ratPt) *big.Rat {
	x, y := new(big.Rat).Sub(q[0], p[0]), new(big.Rat).Sub(q[1], p[1])
	x.Mul(x, big.NewRat(int64(b.X-a.X), 1))
	return x.Add(x, y.Mul(y, big.NewRat(int64(b.Y-a.Y), 1)))
}

// places are points of the segment that are in the box, its part's ends among them: its own ends, the box's corners, and where it crosses a side.
func places(a, b impl.Pt, in impl.Box) []ratPt {
	var list []ratPt
	for _, p := range []impl.Pt{a, b} {
		if impl.InBox(in, p) {
			list = append(list, ratPtOf(p))
		}
	}
	for _, p := range cornersOf(in) {
		if impl.OnSeg(a, b, p) {
			list = append(list, ratPtOf(p))
		}
	}
	for _, side := range sidesOf(in) {
		if kind, x, y := impl.Cross(a, b, side[0], side[1]); kind == impl.CrossPoint {
			list = append(list, ratPt{ratOf(x), ratOf(y)})
		}
	}
	return list
}

// checkEnds: the clip's ends lie in the box and on the segment, and no other point of both lies beyond them.
func checkEnds(t *testing.T, a, b impl.Pt, in impl.Box, got impl.Piece) {
	t.Helper()
	first, last := ratPt{ratOf(got.AX), ratOf(got.AY)}, ratPt{ratOf(got.BX), ratOf(got.BY)}
	list := places(a, b, in)
	for _, end := range []ratPt{first, last} {
		if !end.in(in) || !spotAt(end[0], end[1]).on(a, b) {
			t.Fatal("an end is not in the box, or not on the segment:", a, b, in, pieceText(got))
		}
		if !slices.ContainsFunc(list, end.same) {
			t.Fatal("an end is neither one of the segment nor at a side:", a, b, in, pieceText(got))
		}
	}
	for _, p := range list {
		if first.along(a, b, p).Sign() < 0 || p.along(a, b, last).Sign() < 0 {
			t.Fatal("another point of both lies beyond an end:", a, b, in, pieceText(got), p)
		}
	}
}

// checkAgain: a segment in a box is its own clip, a clip's clip by the same box is itself.
func checkAgain(t *testing.T, a, b impl.Pt, in impl.Box, got impl.Piece) {
	t.Helper()
	if impl.InBox(in, a) && impl.InBox(in, b) {
		from, to := ratPtOf(a), ratPtOf(b)
		checkPiece(t, "a segment in a box is its own clip", got, slices.Concat(from[:], to[:]))
	}
	var ends [4]int
	for i, part := range partsOf(got) {
		if !isWhole(part) {
			return
		}
		ends[i], _ = impl.Small(part.N)
	}
	again, ok := impl.Clip(pt(ends[0], ends[1]), pt(ends[2], ends[3]), in)
	if !ok || pieceText(again) != pieceText(got) {
		t.Fatal("a clip's clip is itself:", a, b, in, pieceText(got), pieceText(again), ok)
	}
}

// checkClip: of a segment and a box that are as they must be, both ways; whether there is a clip.
func checkClip(t *testing.T, a, b impl.Pt, in impl.Box) bool {
	t.Helper()
	got, ok := impl.Clip(a, b, in)
	back, okBack := impl.Clip(b, a, in)
	want := wantClip(a, b, in)
	if ok != (want != nil) || ok != okBack {
		t.Fatal("a clip is there:", a, b, in, ok, okBack)
	}
	checkWhere(t, a, b, in, ok)
	if !ok {
		if !isZeroPiece(got) || !isZeroPiece(back) {
			t.Fatal("beside false:", a, b, in, got, back)
		}
		return false
	}
	checkPiece(t, fmt.Sprint("Clip ", a, b, in), got, want)
	if swapped := (impl.Piece{AX: got.BX, AY: got.BY, BX: got.AX, BY: got.AY}); pieceText(back) != pieceText(swapped) {
		t.Fatal("the other way the ends change places:", a, b, in, pieceText(got), pieceText(back))
	}
	checkEnds(t, a, b, in, got)
	checkAgain(t, a, b, in, got)
	around := checkPieceBox(t, got)
	if !impl.Inside(around, in) {
		t.Fatal("a clip's box lies in the box, as its sides are whole numbers:", a, b, in, around)
	}
	if t.Failed() {
		t.FailNow()
	}
	return true
}

// wantBox is PieceBox of four fractions by the library's reckoning, and whether there is one.
func wantBox(list [4]*big.Rat) (impl.Box, bool) {
	limit := big.NewInt(most)
	ok := true
	least := func(r *big.Rat) int {
		n := new(big.Int).Div(r.Num(), r.Denom())
		ok = ok && n.CmpAbs(limit) <= 0
		return int(n.Int64())
	}
	greatest := func(r *big.Rat) int { return -least(new(big.Rat).Neg(r)) }
	out := impl.Box{
		Lo: pt(min(least(list[0]), least(list[2])), min(least(list[1]), least(list[3]))),
		Hi: pt(max(greatest(list[0]), greatest(list[2])), max(greatest(list[1]), greatest(list[3]))),
	}
	if !ok {
		return impl.Box{}, false
	}
	return out, true
}

// checkPieceBox: of a piece whose fractions are as they must be, either way.
func checkPieceBox(t *testing.T, p impl.Piece) impl.Box {
	t.Helper()
	var list [4]*big.Rat
	for i, part := range partsOf(p) {
		list[i] = ratOf(part)
	}
	want, wantOk := wantBox(list)
	for _, one := range []impl.Piece{p, {AX: p.BX, AY: p.BY, BX: p.AX, BY: p.AY}} {
		if got, ok := impl.PieceBox(one); got != want || ok != wantOk {
			t.Fatal("PieceBox:", pieceText(one), got, ok, "not", want, wantOk)
		}
	}
	return want
}

// cut is a segment, a box, and what its clip is as a text; empty where there is none.
type cut struct {
	what string
	a, b impl.Pt
	in   impl.Box
	want string
}

func checkCuts(t *testing.T, list []cut) {
	t.Helper()
	for _, c := range list {
		got, ok := impl.Clip(c.a, c.b, c.in)
		if text := pieceText(got); ok != (c.want != "") || ok && text != c.want {
			t.Error(c.what, c.a, c.b, c.in, ok, text, "not", c.want)
		}
		checkClip(t, c.a, c.b, c.in)
	}
}

func TestClipsByExample(t *testing.T) {
	t.Parallel()
	in := box(0, 0, 4, 2)
	checkCuts(t, []cut{
		{"in", pt(1, 1), pt(3, 2), in, "1 1 3 2"},
		{"all of it, from corner to corner", pt(0, 0), pt(4, 2), in, "0 0 4 2"},
		{"through, level", pt(-2, 1), pt(6, 1), in, "0 1 4 1"},
		{"through, level, back", pt(6, 1), pt(-2, 1), in, "4 1 0 1"},
		{"through, upright", pt(3, 9), pt(3, -9), in, "3 2 3 0"},
		{"from within to the right", pt(1, 1), pt(9, 1), in, "1 1 4 1"},
		{"from within up", pt(1, 1), pt(1, 7), in, "1 1 1 2"},
		{"into it from below", pt(2, -5), pt(2, 1), in, "2 0 2 1"},
		{"across two sides", pt(-1, 0), pt(2, 4), in, "0 4/3 1/2 2"},
		{"across two sides, level ones", pt(1, -3), pt(2, 4), in, "10/7 0 12/7 2"},
		{"across two sides, upright ones", pt(-3, 0), pt(8, 1), in, "0 3/11 4 7/11"},
		{"past a corner", pt(-1, 1), pt(1, 4), in, ""},
		{"past a corner, closely", pt(-1, 0), pt(1, 5), in, ""},
		{"just across a corner", pt(-3, 0), pt(1, 3), in, ""},
		{"to the left", pt(-3, 0), pt(-1, 2), in, ""},
		{"to the right", pt(5, 0), pt(5, 9), in, ""},
		{"above", pt(0, 3), pt(4, 5), in, ""},
		{"below", pt(0, -1), pt(4, -1), in, ""},
		{"ends ahead of it", pt(-9, 1), pt(-1, 1), in, ""},
		{"begins behind it", pt(5, 1), pt(9, 1), in, ""},
		{"ends ahead of it, slanting", pt(-4, -3), pt(-1, 0), in, ""},
	})
}

func TestClipsAlongASide(t *testing.T) {
	t.Parallel()
	in := box(0, 0, 4, 2)
	checkCuts(t, []cut{
		{"just the side", pt(0, 0), pt(4, 0), in, "0 0 4 0"},
		{"a part of it", pt(1, 2), pt(3, 2), in, "1 2 3 2"},
		{"more than it", pt(-7, 2), pt(8, 2), in, "0 2 4 2"},
		{"more than it, down", pt(0, 9), pt(0, -3), in, "0 2 0 0"},
		{"more than it, up", pt(4, -3), pt(4, 9), in, "4 0 4 2"},
		{"from a part of it on", pt(3, 0), pt(9, 0), in, "3 0 4 0"},
		{"into a part of it", pt(4, 7), pt(4, 1), in, "4 2 4 1"},
		{"beyond it, to the right", pt(5, 0), pt(9, 0), in, ""},
		{"beyond it, to the left", pt(-5, 2), pt(-1, 2), in, ""},
		{"beyond it, above", pt(0, 3), pt(0, 9), in, ""},
		{"beyond it, below", pt(4, -1), pt(4, -9), in, ""},
		{"beside it, above", pt(-7, 3), pt(8, 3), in, ""},
		{"beside it, to the left", pt(-1, -3), pt(-1, 9), in, ""},
		{"on its line, up to a corner", pt(-5, 2), pt(0, 2), in, "0 2 0 2"},
		{"on its line, from a corner", pt(4, 2), pt(4, 9), in, "4 2 4 2"},
	})
}

func TestClipsAtCornersAndEnds(t *testing.T) {
	t.Parallel()
	in := box(0, 0, 4, 2)
	checkCuts(t, []cut{
		{"an end on a corner, out", pt(4, 2), pt(9, 9), in, "4 2 4 2"},
		{"an end on a corner, out, to it", pt(-3, -4), pt(0, 0), in, "0 0 0 0"},
		{"an end on a corner, in", pt(4, 2), pt(1, 1), in, "4 2 1 1"},
		{"an end on a corner, through", pt(0, 0), pt(9, 3), in, "0 0 4 4/3"},
		{"through a corner alone", pt(-1, 1), pt(1, 3), in, "0 2 0 2"},
		{"through a corner alone, on the right", pt(3, -1), pt(5, 1), in, "4 0 4 0"},
		{"through a corner alone, steep", pt(3, 9), pt(5, -5), in, "4 2 4 2"},
		{"through a corner alone, flat", pt(-3, 1), pt(3, -1), in, "0 0 0 0"},
		{"through a corner and a side", pt(-1, -1), pt(5, 5), in, "0 0 2 2"},
		{"through a corner and a side, at no whole number", pt(-1, -3), pt(2, 6), in, "0 0 2/3 2"},
		{"through two corners", pt(-2, -1), pt(6, 3), in, "0 0 4 2"},
		{"through two corners, down", pt(-2, 3), pt(6, -1), in, "0 2 4 0"},
		{"an end on a side, out", pt(2, 2), pt(3, 9), in, "2 2 2 2"},
		{"an end on a side, out, to it", pt(-7, 5), pt(0, 1), in, "0 1 0 1"},
		{"an end on a side, in", pt(2, 2), pt(3, 1), in, "2 2 3 1"},
		{"an end on a side, through", pt(0, 1), pt(9, 2), in, "0 1 4 13/9"},
		{"both ends on sides", pt(0, 1), pt(3, 2), in, "0 1 3 2"},
	})
}

func TestClipsOfOnePoint(t *testing.T) {
	t.Parallel()
	in := box(-3, -2, 4, 2)
	checkCuts(t, []cut{
		{"in", pt(1, 1), pt(1, 1), in, "1 1 1 1"},
		{"at nought", pt(0, 0), pt(0, 0), in, "0 0 0 0"},
		{"on a side", pt(-3, 1), pt(-3, 1), in, "-3 1 -3 1"},
		{"on a corner", pt(4, -2), pt(4, -2), in, "4 -2 4 -2"},
		{"out, level with it", pt(5, 0), pt(5, 0), in, ""},
		{"out, above it", pt(0, 3), pt(0, 3), in, ""},
		{"out both ways", pt(-4, -3), pt(-4, -3), in, ""},
	})
	for x := -5; x <= 6; x++ {
		for y := -4; y <= 4; y++ {
			if checkClip(t, pt(x, y), pt(x, y), in) != impl.InBox(in, pt(x, y)) {
				t.Error("a point:", x, y)
			}
		}
	}
}

func TestClipsByFlatBoxes(t *testing.T) {
	t.Parallel()
	dot, level, upright := box(2, 1, 2, 1), box(-1, 1, 3, 1), box(2, -1, 2, 3)
	checkCuts(t, []cut{
		{"a point, on it", pt(0, 0), pt(4, 2), dot, "2 1 2 1"},
		{"a point, its end", pt(2, 1), pt(4, 2), dot, "2 1 2 1"},
		{"a point, it alone", pt(2, 1), pt(2, 1), dot, "2 1 2 1"},
		{"a point, on its line", pt(4, 2), pt(6, 3), dot, ""},
		{"a point, beside it", pt(0, 0), pt(4, 3), dot, ""},
		{"a point, level with it", pt(-5, 1), pt(5, 1), dot, "2 1 2 1"},
		{"level, across", pt(0, 0), pt(1, 3), level, "1/3 1 1/3 1"},
		{"level, along", pt(-5, 1), pt(5, 1), level, "-1 1 3 1"},
		{"level, back along a part", pt(2, 1), pt(-7, 1), level, "2 1 -1 1"},
		{"level, beyond", pt(4, 1), pt(7, 1), level, ""},
		{"level, beside", pt(-5, 0), pt(5, 0), level, ""},
		{"level, across its line beyond it", pt(3, 0), pt(4, 2), level, ""},
		{"level, across its end", pt(2, 0), pt(4, 2), level, "3 1 3 1"},
		{"upright, across", pt(0, 0), pt(7, 1), upright, "2 2/7 2 2/7"},
		{"upright, along", pt(2, 9), pt(2, -9), upright, "2 3 2 -1"},
		{"upright, beyond", pt(2, 4), pt(2, 5), upright, ""},
		{"upright, beside", pt(1, 4), pt(1, -5), upright, ""},
		{"upright, a point of it", pt(2, 0), pt(2, 0), upright, "2 0 2 0"},
		{"the zero Box is the point 0, 0", pt(-3, -5), pt(3, 5), impl.Box{}, "0 0 0 0"},
	})
}

func TestClipsBelowNought(t *testing.T) {
	t.Parallel()
	in := box(-5, -7, -1, -2)
	checkCuts(t, []cut{
		{"across two sides", pt(-6, -4), pt(-2, 3), in, "-5 -9/4 -34/7 -2"},
		{"across two sides, back", pt(-2, 3), pt(-6, -4), in, "-34/7 -2 -5 -9/4"},
		{"through", pt(0, 0), pt(-9, -10), in, "-9/5 -2 -5 -50/9"},
		{"a whole number and a fraction", pt(-3, -9), pt(0, -6), in, "-1 -7 -1 -7"},
		{"into it", pt(3, -4), pt(-4, -3), in, "-1 -24/7 -4 -3"},
		{"from below nought to above it", pt(-1, -1), pt(1, 2), box(-1, 0, 1, 1), "-1/3 0 1/3 1"},
		{"through nought", pt(-3, -2), pt(3, 2), box(0, -1, 5, 1), "0 0 3/2 1"},
		{"to nought", pt(-3, -7), pt(3, 7), box(-1, -1, 0, 0), "-3/7 -1 0 0"},
	})
}

func TestClipsFromOneEndToTheOther(t *testing.T) {
	t.Parallel()
	sw, ne := pt(-most, -most), pt(most, most)
	checkCuts(t, []cut{
		{"all there is", sw, ne, world(), "-10000000 -10000000 10000000 10000000"},
		{"all there is, down", pt(-most, most), pt(most, -most), world(), "-10000000 10000000 10000000 -10000000"},
		{"along the edge of what there is", pt(most, -most), ne, world(), "10000000 -10000000 10000000 10000000"},
		{"along it, a part", pt(most, -most), ne, box(3, -5, most, 7), "10000000 -5 10000000 7"},
		{"beside the edge", pt(most-1, -most), pt(most-1, most), box(most, -most, most, most), ""},
		{"almost slanting, at 0", sw, pt(most, most-1), box(0, -1, 0, 0), "0 -1/2 0 -1/2"},
		{"almost slanting, at 1", sw, pt(most, most-1), box(1, 0, 1, 5), "1 9999999/20000000 1 9999999/20000000"},
		{"almost slanting, at -1", sw, pt(most, most-1), box(-1, -2, -1, 0), "-1 -29999999/20000000 -1 -29999999/20000000"},
		{"almost slanting, beyond", sw, pt(most, most-1), box(1, 1, 1, 5), ""},
		{"almost slanting, by height", sw, pt(most, most-1), box(-9, 1, 9, 1), "30000000/19999999 1 30000000/19999999 1"},
		{"almost level", pt(-most, 0), pt(most, 1), box(-3, 0, 3, 1), "-3 9999997/20000000 3 10000003/20000000"},
		{"almost level, at the right edge", pt(-most, 0), pt(most, 1), box(most-1, 0, most, 1), "9999999 19999999/20000000 10000000 1"},
		{"almost upright", pt(0, most), pt(-1, -most), box(-1, -most, 0, 1-most), "-19999999/20000000 -9999999 -1 -10000000"},
		{"almost upright, a corner missed", pt(0, most), pt(-1, -most), box(-1, most-1, -1, most), ""},
		{"to a corner of what there is", pt(0, 1), ne, box(most, 0, most, most), "10000000 10000000 10000000 10000000"},
		{"a point at a corner of what there is", sw, sw, world(), "-10000000 -10000000 -10000000 -10000000"},
		{"a box at a corner of what there is", pt(most, most-2), pt(most-2, most), box(most, most, most, most), ""},
	})
}

func TestSmallSegmentsAndBoxes(t *testing.T) {
	t.Parallel()
	boxes := []impl.Box{box(0, 0, 3, 2), box(1, 1, 2, 3), box(1, 1, 1, 1), box(0, 2, 3, 2), box(2, 0, 2, 3), box(-1, -1, 4, 4), box(-1, 0, 0, 1)}
	counts := map[bool]int{}
	for a := range 36 {
		for b := range 36 {
			for _, in := range boxes {
				counts[checkClip(t, pt(a/6-1, a%6-1), pt(b/6-1, b%6-1), in)]++
			}
		}
	}
	if counts[true] < 1000 || counts[false] < 1000 {
		t.Error("the test itself is wrong:", counts)
	}
}

// touching is a segment with something about a box: an end on a side or a corner, on a side's line, or through a corner.
func (d *dice) touching(in impl.Box) (impl.Pt, impl.Pt) {
	corners := cornersOf(in)
	side := d.below(4)
	from, to := corners[side], corners[(side+1)%4]
	on := pt(from.X+(to.X-from.X)*d.below(5)/4, from.Y+(to.Y-from.Y)*d.below(5)/4)
	switch d.below(4) {
	case 0:
		return on, d.near()
	case 1:
		return on, pt(d.below(2*most+1)-most, d.below(2*most+1)-most)
	case 2:
		if from.X == to.X {
			return pt(from.X, d.below(99)-49), pt(from.X, d.below(99)-49)
		}
		return pt(d.below(99)-49, from.Y), pt(d.below(99)-49, from.Y)
	}
	x, y := d.below(9)-4, d.below(9)-4
	k, l := 1+d.below(3), 1+d.below(3)
	return pt(from.X-k*x, from.Y-k*y), pt(from.X+l*x, from.Y+l*y)
}

func TestClipsByChance(t *testing.T) {
	t.Parallel()
	d := &dice{1801}
	counts := map[string]int{}
	count := func(what string, there bool) { counts[fmt.Sprint(what, " ", there)]++ }
	for range rounds {
		count("near", checkClip(t, d.near(), d.near(), d.nearBox()))
		count("far", checkClip(t, d.pt(), d.pt(), d.box()))
		in := d.nearBox()
		a, b := d.touching(in)
		count("touching", checkClip(t, a, b, in))
		f := d.lined()
		x, y := min(f[0].X, f[1].X), min(f[0].Y, f[1].Y)
		in = box(x, y, max(f[0].X, f[1].X), max(f[0].Y, f[1].Y))
		count("lined", checkClip(t, f[2], f[3], in))
		count("through nought", checkClip(t, d.pt(), d.pt(), box(-1-d.below(9), -1-d.below(9), d.below(9), d.below(9))))
	}
	for _, what := range []string{"near", "far", "touching", "lined"} {
		for _, there := range []bool{false, true} {
			if counts[fmt.Sprint(what, " ", there)] < rounds/20 {
				t.Error("the test itself is wrong:", counts)
			}
		}
	}
}

// The part that is in two boxes is the same, whichever box cuts last, as long as the first cut is of whole numbers.
func TestClipsOfClips(t *testing.T) {
	t.Parallel()
	for _, c := range []struct{ a, b impl.Pt }{{pt(-8, -8), pt(9, 9)}, {pt(-8, 9), pt(9, -8)}, {pt(-9, 2), pt(9, 2)}, {pt(1, 9), pt(1, -9)}, {pt(-8, -4), pt(8, 4)}} {
		for _, one := range []impl.Box{box(-4, -4, 6, 6), box(0, -6, 2, 8), box(-6, 0, 8, 4)} {
			for _, other := range []impl.Box{box(-2, -2, 2, 4), box(0, 0, 9, 9), box(2, -7, 4, 7)} {
				both := impl.Box{Lo: pt(max(one.Lo.X, other.Lo.X), max(one.Lo.Y, other.Lo.Y)), Hi: pt(min(one.Hi.X, other.Hi.X), min(one.Hi.Y, other.Hi.Y))}
				first, ok := impl.Clip(c.a, c.b, one)
				var ends [4]int
				for i, part := range partsOf(first) {
					if !ok || !isWhole(part) {
						t.Fatal("the test itself is wrong:", c, one, pieceText(first))
					}
					ends[i], _ = impl.Small(part.N)
				}
				got, ok := impl.Clip(pt(ends[0], ends[1]), pt(ends[2], ends[3]), other)
				want, wantOk := impl.Clip(c.a, c.b, both)
				if ok != wantOk || pieceText(got) != pieceText(want) {
					t.Error("cut twice:", c, one, other, pieceText(got), "not", pieceText(want))
				}
			}
		}
	}
}

func TestClipsOfWrongPointsAndBoxes(t *testing.T) {
	t.Parallel()
	refused := func(what string, a, b impl.Pt, in impl.Box) {
		t.Helper()
		if got, ok := impl.Clip(a, b, in); ok || !isZeroPiece(got) {
			t.Error(what, a, b, in, got, ok)
		}
	}
	// A segment to or from 0, 0 would have a clip by each of these boxes.
	for _, in := range []impl.Box{world(), {}, box(-1, -1, 1, 1), box(-5, 0, 5, 0)} {
		for _, w := range wrongPts() {
			for _, p := range []impl.Pt{{}, pt(1, 1), pt(most, -most), w} {
				refused("a point beyond:", w, p, in)
				refused("a point beyond:", p, w, in)
			}
		}
	}
	for _, in := range wrongBoxes() {
		if impl.BoxOk(in) {
			continue
		}
		for _, p := range []impl.Pt{{}, pt(1, 1), pt(most, most), in.Lo, in.Hi} {
			refused("no box:", p, pt(-1, -1), in)
			refused("no box:", p, p, in)
			refused("no box:", in.Lo, p, in)
		}
		refused("no box, and points beyond:", pt(most+1, 0), pt(0, math.MinInt), in)
	}
}

// checkClipLine: of a good line, or lines, and a box; how many clips there are.
func checkClipLine(t *testing.T, s impl.Shape, in impl.Box) int {
	t.Helper()
	got, want := impl.ClipLine(s, in), wantClips(s, in)
	if len(got) != len(want) {
		t.Fatal("ClipLine:", s, in, pieceTexts(got), len(want))
	}
	for i, p := range got {
		checkPiece(t, "ClipLine", p, want[i])
	}
	i := 0
	for _, seg := range impl.Segments(s) {
		if p, ok := impl.Clip(seg[0], seg[1], in); ok {
			if pieceText(got[i]) != pieceText(p) {
				t.Fatal("Clip of a segment is another one:", s, in, i)
			}
			i++
		}
	}
	if impl.MeetsBox(s, in) != (len(got) > 0) || i != len(got) {
		t.Fatal("there are clips just where the line meets the box:", s, in)
	}
	if t.Failed() {
		t.FailNow()
	}
	return len(got)
}

func TestClipLineByExample(t *testing.T) {
	t.Parallel()
	in := box(0, 0, 4, 2)
	for _, c := range []struct {
		what string
		s    impl.Shape
		want string
	}{
		{"one segment", line(-1, 0, 2, 4), "0 4/3 1/2 2"},
		{"all in", line(0, 0, 1, 2, 3, 0, 4, 2), "0 0 1 2, 1 2 3 0, 3 0 4 2"},
		{"in, then out", line(-1, 1, 1, 1, 1, 9, 9, 9), "0 1 1 1, 1 1 1 2"},
		{"out, between those that are in", line(1, 1, 1, 5, 3, 5, 3, 1, 3, -4, 1, -4, 1, 0), "1 1 1 2, 3 2 3 1, 3 1 3 0, 1 0 1 0"},
		{"out ahead and behind", line(9, 9, 5, 5, 2, 5, 2, -5, 9, -5, 9, 9), "2 2 2 0"},
		{"none", line(-1, -1, 5, -1, 5, 3, -1, 3, -1, -1), ""},
		{"around it, with two corners", line(-2, 1, 2, -1, 6, 1, 2, 3, -2, 1), "0 0 0 0, 4 0 4 0, 4 2 4 2, 0 2 0 2"},
		{"touches a side with a corner", line(-2, 2, 0, 1, -2, 0), "0 1 0 1, 0 1 0 1"},
		{"touches a corner with a corner", line(5, 9, 4, 2, 9, 3), "4 2 4 2, 4 2 4 2"},
		{"there and back", line(-1, 1, 5, 1, -1, 1), "0 1 4 1, 4 1 0 1"},
		{"along all sides", line(0, 0, 4, 0, 4, 2, 0, 2, 0, 0), "0 0 4 0, 4 0 4 2, 4 2 0 2, 0 2 0 0"},
		{"lines, one", lines(row(-1, 1, 2, 1)), "0 1 2 1"},
		{"lines, the last one first", lines(row(3, 1, 9, 1), row(-1, 1, 1, 1, 1, 7), row(5, 5, 6, 6), row(2, 9, 2, 1)), "3 1 4 1, 0 1 1 1, 1 1 1 2, 2 2 2 1"},
		{"lines, alike", lines(row(1, 1, 2, 2), row(1, 1, 2, 2)), "1 1 2 2, 1 1 2 2"},
		{"lines, no segment from row to row", lines(row(-3, 1, -1, 1), row(5, 1, 9, 1)), ""},
		{"lines, no segment back", lines(row(-3, 1, -3, 5, 9, 5, 9, 1)), ""},
	} {
		if got := pieceTexts(impl.ClipLine(c.s, in)); got != c.want {
			t.Error(c.what, c.s, got, "not", c.want)
		}
		checkClipLine(t, c.s, in)
	}
}

func TestClipLineByChance(t *testing.T) {
	t.Parallel()
	d := &dice{1802}
	counts := map[int]int{}
	for range rounds / 4 {
		for _, kind := range []int{impl.ShapeLine, impl.ShapeLines} {
			counts[checkClipLine(t, d.nearShape(kind), d.nearBox())]++
			counts[checkClipLine(t, d.nearShape(kind), world())]++
			counts[checkClipLine(t, d.greatShape(kind), d.box())]++
		}
	}
	for n := range 5 {
		if counts[n] < 10 {
			t.Error("the test itself is wrong:", counts)
		}
	}
}

// zigzags has so many rows of so many points, each to the other side of 0 than the one ahead, and one higher.
func zigzags(rows, points int) impl.Shape {
	s := impl.Shape{Kind: impl.ShapeLines}
	for r := range rows {
		var list []impl.Pt
		for i := range points {
			list = append(list, pt((1-2*(i%2))*(r+1)*(i+5), i-r))
		}
		s.Rings = append(s.Rings, list)
	}
	return s
}

func TestClipLineOfManyPoints(t *testing.T) {
	t.Parallel()
	if checkClipLine(t, zigzags(10, 50), box(-3, -20, 3, 90)) != 490 || checkClipLine(t, zigzags(10, 50), world()) != 490 {
		t.Error("lines of 500 points")
	}
	// Five rows are at 0, Y in a point to the right of 0, X: the first one at its first point, so once, the others twice each.
	if n := checkClipLine(t, zigzags(10, 50), box(1, 0, 300, 0)); n != 9 {
		t.Error("lines of 500 points by a flat box:", n)
	}
	whole := zigzags(impl.MaxRings, impl.MaxRing)
	if checkClipLine(t, whole, world()) != impl.MaxRings*(impl.MaxRing-1) || checkClipLine(t, whole, box(0, -99, 0, 99)) != impl.MaxRings*(impl.MaxRing-1) {
		t.Error("lines as long as may be")
	}
	longest := shape(impl.ShapeLine, whole.Rings[0])
	if checkClipLine(t, longest, box(0, -99, 2, 99)) != impl.MaxRing-1 || checkClipLine(t, longest, box(0, 3, 0, 5)) == 0 {
		t.Error("a line as long as may be")
	}
	for _, s := range []impl.Shape{zigzags(1, impl.MaxRing+1), zigzags(1, 500), zigzags(impl.MaxRings+1, 5), zigzags(50, 10), shape(impl.ShapeLine, zigzags(1, 500).Rings[0])} {
		if got := impl.ClipLine(s, world()); len(got) != 0 {
			t.Error("too many points, or rows:", len(s.Rings), len(s.Rings[0]), len(got))
		}
	}
}

func TestClipLineOfOtherShapes(t *testing.T) {
	t.Parallel()
	good := goodShapes()
	for _, what := range slices.Sorted(maps.Keys(good)) {
		s := good[what]
		if s.Kind == impl.ShapeLine || s.Kind == impl.ShapeLines {
			if checkClipLine(t, s, world()) != len(impl.Segments(s)) {
				t.Error("all of it is in all there is:", what)
			}
			continue
		}
		for _, in := range []impl.Box{world(), impl.ShapeBox(s), {}} {
			if got := impl.ClipLine(s, in); len(got) != 0 {
				t.Error("no line:", what, pieceTexts(got))
			}
		}
	}
	for what, s := range wrongShapes() {
		if got := impl.ClipLine(s, world()); len(got) != 0 {
			t.Error("not good:", what, pieceTexts(got))
		}
	}
	for _, s := range spoiltShapes() {
		if got := impl.ClipLine(s, world()); len(got) != 0 {
			t.Error("not good:", s, pieceTexts(got))
		}
	}
	for _, in := range wrongBoxes() {
		for _, s := range []impl.Shape{line(0, 0, 1, 1), lines(row(-9, 0, 9, 0), row(0, -9, 0, 9)), {}, line(0, 0)} {
			if got := impl.ClipLine(s, in); !impl.BoxOk(in) && len(got) != 0 {
				t.Error("no box:", s, in, pieceTexts(got))
			}
		}
	}
}

func TestPieceBoxByExample(t *testing.T) {
	t.Parallel()
	for _, c := range []struct {
		piece string
		want  impl.Box
	}{
		{"0 0 0 0", impl.Box{}},
		{"1 2 3 4", box(1, 2, 3, 4)},
		{"3 4 1 2", box(1, 2, 3, 4)},
		{"3 2 1 4", box(1, 2, 3, 4)},
		{"1 4 3 2", box(1, 2, 3, 4)},
		{"-3 -4 -1 -2", box(-3, -4, -1, -2)},
		{"5 -6 5 -6", box(5, -6, 5, -6)},
		{"1/2 1/3 1/2 1/3", box(0, 0, 1, 1)},
		{"-1/2 -1/3 -1/2 -1/3", box(-1, -1, 0, 0)},
		{"7/2 -7/2 9/2 -9/2", box(3, -5, 5, -3)},
		{"9/2 -9/2 7/2 -7/2", box(3, -5, 5, -3)},
		{"-1/2 5 1/2 5", box(-1, 5, 1, 5)},
		{"5 1/2 5 -1/2", box(5, -1, 5, 1)},
		{"1 7/3 1 8/3", box(1, 2, 1, 3)},
		{"0 4/3 1/2 2", box(0, 1, 1, 2)},
		{"-7/3 -7/3 -8/3 -8/3", box(-3, -3, -2, -2)},
		{"2/4 6/4 8/4 -6/4", box(0, -2, 2, 2)},
		{"0/7 -12/6 12/6 -13/6", box(0, -3, 2, -2)},
		{"19999999/20000000 -1/20000000 19999999/20000000 -1/20000000", box(0, -1, 1, 0)},
		{"-10000000 -10000000 10000000 10000000", world()},
		{"19999999/2 -19999999/2 0 0", box(0, -most, most, 0)},
	} {
		p := pieceFrom(t, c.piece)
		if got, ok := impl.PieceBox(p); !ok || got != c.want {
			t.Error("PieceBox:", c.piece, got, ok, "not", c.want)
		}
		checkPieceBox(t, p)
	}
}

// withPart is p with another one of its four fractions.
func withPart(p impl.Piece, place int, part impl.Frac) impl.Piece {
	parts := partsOf(p)
	parts[place] = part
	return impl.Piece{AX: parts[0], AY: parts[1], BX: parts[2], BY: parts[3]}
}

func checkNoBox(t *testing.T, what string, p impl.Piece) {
	t.Helper()
	if got, ok := impl.PieceBox(p); ok || got != (impl.Box{}) {
		t.Error("PieceBox:", what, p, got, ok)
	}
}

// checkHasBox: with the fraction at each place of a piece.
func checkHasBox(t *testing.T, what string, part impl.Frac) {
	t.Helper()
	for place := range 4 {
		one := withPart(pieceFrom(t, "1 -2 7/2 3"), place, part)
		if _, ok := impl.PieceBox(one); !ok {
			t.Error("PieceBox:", what, place, pieceText(one))
		}
		checkPieceBox(t, one)
	}
}

// checkHasNoBox: likewise, of one for which a whole number would be beyond MaxCoord.
func checkHasNoBox(t *testing.T, what string, part impl.Frac) {
	t.Helper()
	for place := range 4 {
		one := withPart(pieceFrom(t, "1 -2 7/2 3"), place, part)
		checkNoBox(t, what, one)
		checkPieceBox(t, one)
	}
}

func TestPieceBoxAtMaxCoord(t *testing.T) {
	t.Parallel()
	for _, text := range []string{"10000000", "-10000000", "20000000/2", "-30000000/3", "19999999/2", "-19999999/2"} {
		checkHasBox(t, "just at MaxCoord, or ahead of it", fracFrom(t, text))
	}
	for _, text := range []string{
		"10000001", "-10000001", "20000001/2", "-20000001/2", "20000002/2", "1000000001/100", "-1000000001/100", "100000000000000000001/10000000000000",
		"9223372036854775807", "-9223372036854775807", "9223372036854775808", "-9223372036854775808", "-9223372036854775809", "18446744073709551616", "18446744073709551621", "-18446744073709551616",
		"4294967296", "-4294967296", "4294967301", "9223372036854775807/2", "-18446744073709551617/2", "36893488147419103237/2",
	} {
		checkHasNoBox(t, "beyond MaxCoord", fracFrom(t, text))
	}
	by := full(23, 5)
	edge, one := impl.Mul(by, impl.Of(most)), impl.Of(1)
	for _, n := range []impl.Num{edge, impl.Sub(edge, one)} {
		checkHasBox(t, "at MaxCoord, great parts", impl.Frac{N: n, D: by})
		checkHasBox(t, "at -MaxCoord, great parts", impl.Frac{N: impl.Neg(n), D: by})
	}
	beyond := impl.Add(edge, one)
	checkHasNoBox(t, "just beyond MaxCoord, great parts", impl.Frac{N: beyond, D: by})
	checkHasNoBox(t, "just beyond -MaxCoord, great parts", impl.Frac{N: impl.Neg(beyond), D: by})
}

func TestPieceBoxOfGreatParts(t *testing.T) {
	t.Parallel()
	great := full(impl.MaxLimbs, math.MaxUint32)
	near := impl.Sub(great, impl.Of(1))
	for what, part := range map[string]impl.Frac{
		"as great as may be":        {N: great, D: impl.Of(1)},
		"as far below as may be":    {N: impl.Neg(great), D: impl.Of(1)},
		"great, through 2":          {N: great, D: impl.Of(2)},
		"great, below, through 3":   {N: impl.Neg(great), D: impl.Of(3)},
		"great, through one beside": {N: impl.Mul(full(12, 9), full(12, 8)), D: full(12, 9)},
	} {
		checkHasNoBox(t, what, part)
	}
	for _, c := range []struct {
		what    string
		part    impl.Frac
		lo, top int
	}{
		{"just below 1", impl.Frac{N: near, D: great}, 0, 1},
		{"just above 1", impl.Frac{N: great, D: near}, 1, 2},
		{"1", impl.Frac{N: great, D: great}, 1, 1},
		{"-1", impl.Frac{N: impl.Neg(great), D: great}, -1, -1},
		{"just above -1", impl.Frac{N: impl.Neg(near), D: great}, -1, 0},
		{"just below -1", impl.Frac{N: impl.Neg(great), D: near}, -2, -1},
		{"just above 0", impl.Frac{N: impl.Of(1), D: great}, 0, 1},
		{"just below 0", impl.Frac{N: impl.Of(-1), D: great}, -1, 0},
		{"0", impl.Frac{D: great}, 0, 0},
	} {
		nought := impl.Frac{D: great}
		if got, ok := impl.PieceBox(impl.Piece{AX: c.part, AY: nought, BX: c.part, BY: nought}); !ok || got != box(c.lo, 0, c.top, 0) {
			t.Error("PieceBox, X:", c.what, got, ok)
		}
		if got, ok := impl.PieceBox(impl.Piece{AX: nought, AY: c.part, BX: nought, BY: c.part}); !ok || got != box(0, c.lo, 0, c.top) {
			t.Error("PieceBox, Y:", c.what, got, ok)
		}
		checkHasBox(t, c.what, c.part)
	}
}

func TestPieceBoxOfWrongFracs(t *testing.T) {
	t.Parallel()
	wrong := wrongFracs()
	checkNoBox(t, "the zero Piece", impl.Piece{})
	for _, p := range []impl.Piece{pieceFrom(t, "0 0 0 0"), pieceFrom(t, "1 -2 7/2 3"), pieceFrom(t, "-10000000 -10000000 10000000 10000000"), pieceFrom(t, "1 2 3 99999999")} {
		for what, part := range wrong {
			for place := range 4 {
				checkNoBox(t, what, withPart(p, place, part))
				checkNoBox(t, what+", twice", withPart(withPart(p, place, part), (place+1)%4, part))
			}
		}
	}
	for what, part := range wrong {
		checkNoBox(t, what+", all", impl.Piece{AX: part, AY: part, BX: part, BY: part})
	}
}

// closeTo is a fraction at a whole number, or close beside it, with parts of many limbs now and then.
func (d *dice) closeTo(n int) impl.Frac {
	by := impl.Of(1 + d.below(9))
	if d.below(2) == 0 {
		by = impl.Num{Mag: append(slices.Repeat([]uint32{d.limb()}, d.below(20)), 1+uint32(d.below(99)))}
	}
	return impl.Frac{N: impl.Add(impl.Mul(by, impl.Of(n)), impl.Of(d.below(3)-1)), D: by}
}

func TestPieceBoxByChance(t *testing.T) {
	t.Parallel()
	d := &dice{1803}
	counts := map[bool]int{}
	for range rounds {
		p := impl.Piece{AX: d.closeTo(d.coord()), AY: d.closeTo(d.coord()), BX: d.closeTo(d.coord()), BY: d.closeTo(d.below(7) - 3)}
		checkPieceBox(t, p)
		_, ok := impl.PieceBox(p)
		counts[ok]++
		checkPieceBox(t, impl.Piece{AX: d.frac(impl.MaxLimbs), AY: d.frac(4), BX: d.frac(2), BY: d.frac(impl.MaxLimbs)})
	}
	if counts[true] < rounds/20 || counts[false] < rounds/20 {
		t.Error("the test itself is wrong:", counts)
	}
}

// roomyPiece is the same piece in memory of its own, with room behind each list, and all of that memory as a text.
func roomyPiece(p impl.Piece) (impl.Piece, func() string) {
	var rooms [4][2][]uint32
	parts := partsOf(p)
	for i, part := range parts {
		parts[i], rooms[i] = roomyFrac(part)
	}
	return impl.Piece{AX: parts[0], AY: parts[1], BX: parts[2], BY: parts[3]}, func() string { return fmt.Sprint(rooms) }
}

func piecesForMemory(t *testing.T) []impl.Piece {
	t.Helper()
	d := &dice{1804}
	great := impl.Frac{N: full(impl.MaxLimbs, math.MaxUint32), D: full(impl.MaxLimbs, 7)}
	list := []impl.Piece{{}, pieceFrom(t, "0 0 0 0"), pieceFrom(t, "7/2 -7/2 9/2 -9/2"), {AX: great, AY: great, BX: great, BY: great}, pieceFrom(t, "1 2 3 10000001")}
	for _, part := range inOrder(wrongFracs()) {
		list = append(list, withPart(list[2], d.below(4), part))
	}
	for range 100 {
		list = append(list, impl.Piece{AX: d.closeTo(d.coord()), AY: d.frac(3), BX: d.closeTo(7), BY: d.closeTo(d.coord())})
	}
	return list
}

func TestPieceBoxLeavesItsPiece(t *testing.T) {
	t.Parallel()
	for _, p := range piecesForMemory(t) {
		want, wantOk := impl.PieceBox(p)
		given, tell := roomyPiece(p)
		before := tell()
		if got, ok := impl.PieceBox(given); got != want || ok != wantOk {
			t.Error("what lies behind is looked at:", p, got, ok)
		}
		if tell() != before {
			t.Error("a piece was changed:", p)
		}
	}
}

func TestPieceInOneMemory(t *testing.T) {
	t.Parallel()
	limbs := []uint32{6, 0, 8}
	three := impl.Num{Mag: limbs}
	one, less := impl.Frac{N: three, D: three}, impl.Frac{N: impl.Num{Neg: true, Mag: limbs}, D: impl.Num{Mag: limbs[:1]}}
	if got, ok := impl.PieceBox(impl.Piece{AX: one, AY: one, BX: one, BY: one}); !ok || got != box(1, 1, 1, 1) {
		t.Error("in one memory:", got, ok)
	}
	checkNoBox(t, "in one memory, too far below", impl.Piece{AX: one, AY: less, BX: one, BY: one})
	if !slices.Equal(limbs, []uint32{6, 0, 8}) {
		t.Error("written into:", limbs)
	}
}

// limbSpans is where the limbs of all pieces lie, with the room behind each.
func limbSpans(list []impl.Piece) []span {
	var out []span
	for _, p := range list {
		for _, n := range numbersOf(p) {
			out = append(out, spanOf(n.Mag)...)
		}
	}
	return out
}

// checkPiecesApart: what is appended to one list of an answer, or written into it, is in none of the others.
func checkPiecesApart(t *testing.T, what string, list []impl.Piece) {
	t.Helper()
	checkApartFrom(t, what, slices.Concat(limbSpans(list), spanOf(list)), nil)
	all := list[:cap(list)]
	for _, p := range all[len(list):] {
		if !isZeroPiece(p) {
			t.Fatal("something stands behind the list:", what, pieceText(p))
		}
	}
	texts := func() []string {
		var out []string
		for _, p := range list {
			for _, n := range numbersOf(p) {
				out = append(out, impl.NumText(n))
			}
		}
		return out
	}
	before := texts()
	place := 0
	for _, p := range list {
		for _, n := range numbersOf(p) {
			// What comes of it is not kept: only what is written behind the list can be seen.
			_ = append(n.Mag, 77, 78, 79)
			if after := texts(); !slices.Equal(after, before) {
				t.Fatal("an append writes into another number:", what, place)
			}
			scribble(n)
			after := texts()
			after[place] = before[place]
			if !slices.Equal(after, before) {
				t.Fatal("two numbers share memory:", what, place)
			}
			scribble(n)
			place++
		}
	}
}

func TestClipsAreTheirOwn(t *testing.T) {
	t.Parallel()
	d := &dice{1805}
	for i := range 400 {
		a, b, in := d.near(), d.near(), d.nearBox()
		if i%2 == 0 {
			a, b, in = d.pt(), d.pt(), d.box()
		}
		if i%20 == 1 {
			b = a
		}
		got, ok := impl.Clip(a, b, in)
		again, _ := impl.Clip(a, b, in)
		if !ok {
			continue
		}
		text := pieceText(got)
		checkPiecesApart(t, "Clip", []impl.Piece{got})
		checkApartFrom(t, "Clip, again", limbSpans([]impl.Piece{got}), limbSpans([]impl.Piece{again}))
		for _, n := range numbersOf(got) {
			scribble(n)
		}
		later, _ := impl.Clip(a, b, in)
		if pieceText(again) != text || pieceText(later) != text {
			t.Fatal("an answer is kept:", a, b, in)
		}
	}
}

func linesForMemory() []impl.Shape {
	d := &dice{1806}
	list := []impl.Shape{{}, line(-1, 1, 1, 1, 1, 9, 9, 9), lines(row(0, 0, 9, 1), row(1, 1, 2, 9, 7, 0)), plot(), point(1, 2), line(1, 1), line(0, 0, 1, 1, most+1, 0), zigzags(4, 9)}
	for range 40 {
		list = append(list, d.nearShape(impl.ShapeLine), d.nearShape(impl.ShapeLines), d.greatShape(impl.ShapeLines))
	}
	return list
}

func TestClipLineLeavesItsShape(t *testing.T) {
	t.Parallel()
	d := &dice{1807}
	for _, s := range linesForMemory() {
		for _, in := range []impl.Box{world(), box(0, 0, 4, 2), d.nearBox(), box(1, 0, 0, 0)} {
			given, memory, all := roomyShape(s, pt(3, 1))
			before := fmt.Sprint(memory, all)
			want := pieceTexts(impl.ClipLine(s, in))
			got := impl.ClipLine(given, in)
			if pieceTexts(got) != want || fmt.Sprint(memory, all) != before || len(given.Rings) != len(s.Rings) {
				t.Fatal("what lies behind is looked at, or a shape was changed:", s, in)
			}
			again := impl.ClipLine(given, in)
			checkPiecesApart(t, "ClipLine", got)
			checkApartFrom(t, "ClipLine, again", slices.Concat(limbSpans(got), spanOf(got)), slices.Concat(limbSpans(again), spanOf(again), spanOf(memory), spanOf(all)))
			for _, p := range got {
				for _, n := range numbersOf(p) {
					scribble(n)
				}
			}
			clear(got[:cap(got)])
			if pieceTexts(again) != want || pieceTexts(impl.ClipLine(given, in)) != want || fmt.Sprint(memory, all) != before {
				t.Fatal("an answer is kept:", s, in)
			}
		}
	}
}

// Nought has no limbs, wherever it stands: numbers that are the same look the same.
func TestCutNoughtsHaveNoLimbs(t *testing.T) {
	t.Parallel()
	for _, p := range impl.ClipLine(line(-3, 0, 3, 0, 0, 0, 0, 5), box(0, 0, 2, 2)) {
		for _, part := range partsOf(p) {
			if impl.Sign(part.N) == 0 && (len(part.N.Mag) != 0 || cap(part.N.Mag) != 0 || !isWhole(part)) {
				t.Error("nought:", part)
			}
		}
	}
}

// clipCase is what all calls of the chapter are asked with.
type clipCase struct {
	a, b impl.Pt
	in   impl.Box
	s    impl.Shape
	p    impl.Piece
}

func clipCases(t *testing.T) []clipCase {
	t.Helper()
	d := &dice{1808}
	var list []clipCase
	shapes := linesForMemory()
	for i, p := range piecesForMemory(t) {
		c := clipCase{a: d.near(), b: d.near(), in: d.nearBox(), s: shapes[i%len(shapes)], p: p}
		switch i % 4 {
		case 1:
			c.a, c.b, c.in = d.pt(), d.pt(), d.box()
		case 2:
			wrong := wrongPts()
			c.a = wrong[i%len(wrong)]
		case 3:
			wrong := wrongBoxes()
			c.in = wrong[i%len(wrong)]
		}
		list = append(list, c)
	}
	return list
}

// What was refused, or asked for ahead, leaves nothing behind; nor do calls at the same time.
func TestClipCallsKeepNothing(t *testing.T) {
	t.Parallel()
	tell := func(c clipCase) string {
		piece, ok := impl.Clip(c.a, c.b, c.in)
		around, okBox := impl.PieceBox(c.p)
		return fmt.Sprint(pieceText(piece), ok, pieceTexts(impl.ClipLine(c.s, c.in)), around, okBox)
	}
	checkKeepsNothing(t, clipCases(t), tell, func(c clipCase) string { return fmt.Sprint(c) })
}
