package tests

import (
	"cmp"
	"fmt"
	"maps"
	"math"
	"reflect"
	"slices"
	"testing"

	"loop.example/g00108/impl"
)

const (
	mostNode = 4
	mostTree = 600
)

// idBox is what a tree holds.
type idBox struct {
	id  int
	box impl.Box
}

func with(id int, b impl.Box) idBox { return idBox{id, b} }

// at is a point with its Id.
func at(id, x, y int) idBox { return idBox{id, box(x, y, x, y)} }

// wantJoined is the least box with all; the zero Box of none.
func wantJoined(list []impl.Box) impl.Box {
	if len(list) == 0 {
		return impl.Box{}
	}
	out := list[0]
	for _, b := range list {
		out = box(min(out.Lo.X, b.Lo.X), min(out.Lo.Y, b.Lo.Y), max(out.Hi.X, b.Hi.X), max(out.Hi.Y, b.Hi.Y))
	}
	return out
}

// boxesIn are the boxes of what a Node has: of its Boxes, or of its Kids.
func boxesIn(n impl.Node) []impl.Box {
	out := slices.Clone(n.Boxes)
	for _, kid := range n.Kids {
		out = append(out, kid.Box)
	}
	return out
}

// fitted has the Box that it must have.
func fitted(n impl.Node) impl.Node {
	n.Box = wantJoined(boxesIn(n))
	return n
}

func leaf(list ...idBox) impl.Node {
	var n impl.Node
	for _, b := range list {
		n.Boxes, n.Ids = append(n.Boxes, b.box), append(n.Ids, b.id)
	}
	return fitted(n)
}

func inner(kids ...impl.Node) impl.Node { return fitted(impl.Node{Kids: kids}) }

// dotLeaf is a leaf of points in a row, with Ids from first on.
func dotLeaf(first, count int) impl.Node {
	var list []idBox
	for i := range count {
		list = append(list, at(first+i, 3*(first+i), (first+i)%2))
	}
	return leaf(list...)
}

// onKid is n within so many Nodes that have one Kid alone.
func onKid(n impl.Node, times int) impl.Node {
	for range times {
		n = inner(n)
	}
	return n
}

// wantTreeOk tells of what is right how deep it is and how many Ids it has, too.
func wantTreeOk(n impl.Node, top bool) (depth, ids int, ok bool) {
	if n.Box != wantJoined(boxesIn(n)) {
		return 0, 0, false
	}
	if len(n.Kids) == 0 {
		ok = len(n.Boxes) == len(n.Ids) && len(n.Ids) <= mostNode && (top || len(n.Ids) > 0)
		for _, b := range n.Boxes {
			ok = ok && impl.BoxOk(b)
		}
		return 1, len(n.Ids), ok
	}
	ok = len(n.Kids) <= mostNode && len(n.Boxes) == 0 && len(n.Ids) == 0
	for i, kid := range n.Kids {
		kidDepth, kidIds, kidOk := wantTreeOk(kid, false)
		ok = ok && kidOk && (i == 0 || kidDepth == depth)
		depth, ids = kidDepth, ids+kidIds
	}
	return depth + 1, ids, ok && (!top || ids <= mostTree)
}

// allIn is what a tree holds, leaf by leaf.
func allIn(n impl.Node) []idBox {
	var out []idBox
	for i, id := range n.Ids {
		out = append(out, idBox{id, n.Boxes[i]})
	}
	for _, kid := range n.Kids {
		out = append(out, allIn(kid)...)
	}
	return out
}

func idsIn(list []idBox) []int {
	var out []int
	for _, b := range list {
		out = append(out, b.id)
	}
	return out
}

func areaOfBox(b impl.Box) int { return (b.Hi.X - b.Lo.X) * (b.Hi.Y - b.Lo.Y) }

// wantKid is the place of the Kid that a box is added to.
func wantKid(kids []impl.Node, b impl.Box) int {
	best := 0
	for i := range kids {
		grown := func(n impl.Node) int { return areaOfBox(wantJoined([]impl.Box{n.Box, b})) - areaOfBox(n.Box) }
		less := grown(kids[i]) - grown(kids[best])
		if less < 0 || less == 0 && areaOfBox(kids[i].Box) < areaOfBox(kids[best].Box) {
			best = i
		}
	}
	return best
}

// wantOrder are the places of boxes in the order in which they are split: each box is put behind all that come ahead of it.
func wantOrder(list []impl.Box) []int {
	var xs, ys []int
	for _, b := range list {
		xs, ys = append(xs, b.Lo.X+b.Hi.X), append(ys, b.Lo.Y+b.Hi.Y)
	}
	by := xs
	if slices.Max(ys)-slices.Min(ys) > slices.Max(xs)-slices.Min(xs) {
		by = ys
	}
	out := make([]int, len(list))
	for i := range list {
		ahead := 0
		for j := range list {
			if by[j] < by[i] || by[j] == by[i] && j < i {
				ahead++
			}
		}
		out[ahead] = i
	}
	return out
}

// wantHalves is a Node, or the two that it is split into.
func wantHalves(n impl.Node) []impl.Node {
	all := boxesIn(n)
	if len(all) <= mostNode {
		return []impl.Node{fitted(n)}
	}
	halves := make([]impl.Node, 2)
	for place, i := range wantOrder(all) {
		half := &halves[0]
		if place >= 2 {
			half = &halves[1]
		}
		if len(n.Kids) > 0 {
			half.Kids = append(half.Kids, n.Kids[i])
		} else {
			half.Boxes, half.Ids = append(half.Boxes, n.Boxes[i]), append(half.Ids, n.Ids[i])
		}
	}
	return []impl.Node{fitted(halves[0]), fitted(halves[1])}
}

// wantInto is what becomes of a Node to which a box is added: one Node or two.
func wantInto(n impl.Node, b idBox) []impl.Node {
	if len(n.Kids) == 0 {
		return wantHalves(impl.Node{Boxes: append(slices.Clone(n.Boxes), b.box), Ids: append(slices.Clone(n.Ids), b.id)})
	}
	i := wantKid(n.Kids, b.box)
	return wantHalves(impl.Node{Kids: slices.Concat(n.Kids[:i], wantInto(n.Kids[i], b), n.Kids[i+1:])})
}

func wantTreeAdd(n impl.Node, b idBox) (impl.Node, bool) {
	if _, ids, ok := wantTreeOk(n, true); !ok || ids == mostTree || !impl.BoxOk(b.box) {
		return n, false
	}
	parts := wantInto(n, b)
	if len(parts) == 2 {
		return inner(parts...), true
	}
	return parts[0], true
}

// wantWithout is what is left of a Node, if anything, without the first of its Ids that is id.
func wantWithout(n impl.Node, id int) (left []impl.Node, found bool) {
	if i := slices.Index(n.Ids, id); i >= 0 {
		n.Boxes, n.Ids = slices.Concat(n.Boxes[:i], n.Boxes[i+1:]), slices.Concat(n.Ids[:i], n.Ids[i+1:])
		if len(n.Ids) == 0 {
			return nil, true
		}
		return []impl.Node{fitted(n)}, true
	}
	for i, kid := range n.Kids {
		if left, found = wantWithout(kid, id); found {
			if len(left) == 0 && len(n.Kids) == 1 {
				return nil, true
			}
			return []impl.Node{inner(slices.Concat(n.Kids[:i], left, n.Kids[i+1:])...)}, true
		}
	}
	return []impl.Node{n}, false
}

func wantTreeTake(n impl.Node, id int) (impl.Node, bool) {
	if _, _, ok := wantTreeOk(n, true); !ok {
		return n, false
	}
	left, found := wantWithout(n, id)
	if !found {
		return n, false
	}
	if len(left) == 0 {
		return impl.Node{}, true
	}
	n = left[0]
	for len(n.Kids) == 1 {
		n = n.Kids[0]
	}
	return n, true
}

// wantFound are the Ids of the boxes that have a point together with the window.
func wantFound(list []idBox, window impl.Box) []int {
	var out []int
	for _, b := range list {
		if impl.BoxOk(window) && b.box.Lo.X <= window.Hi.X && window.Lo.X <= b.box.Hi.X && b.box.Lo.Y <= window.Hi.Y && window.Lo.Y <= b.box.Hi.Y {
			out = append(out, b.id)
		}
	}
	slices.Sort(out)
	return out
}

func wantTreeBuild(list []idBox) impl.Node {
	if len(list) <= mostSorted {
		list = slices.Clone(list)
		slices.SortStableFunc(list, func(a, b idBox) int { return cmp.Compare(wantKey(a.box), wantKey(b.box)) })
	}
	if len(list) == 0 {
		return impl.Node{}
	}
	var level []impl.Node
	for i := 0; i < len(list); i += mostNode {
		level = append(level, leaf(list[i:min(i+mostNode, len(list))]...))
	}
	for len(level) > 1 {
		var above []impl.Node
		for i := 0; i < len(level); i += mostNode {
			above = append(above, inner(level[i:min(i+mostNode, len(level))]...))
		}
		level = above
	}
	return level[0]
}

func sameNode(a, b impl.Node) bool {
	return a.Box == b.Box && slices.Equal(a.Boxes, b.Boxes) && slices.Equal(a.Ids, b.Ids) && slices.EqualFunc(a.Kids, b.Kids, sameNode)
}

func shortNode(n impl.Node) string {
	text := fmt.Sprint(n)
	if len(text) > 600 {
		text = text[:600] + " .."
	}
	return text
}

// nodeCopy is the same in memory of its own.
func nodeCopy(n impl.Node) impl.Node {
	out := impl.Node{Box: n.Box, Boxes: slices.Clone(n.Boxes), Ids: slices.Clone(n.Ids)}
	for _, kid := range n.Kids {
		out.Kids = append(out.Kids, nodeCopy(kid))
	}
	return out
}

func checkTreeAdd(t *testing.T, n impl.Node, b idBox) impl.Node {
	t.Helper()
	want, wantOk := wantTreeAdd(n, b)
	got, ok := impl.TreeAdd(n, b.id, b.box)
	if ok != wantOk || !sameNode(got, want) {
		t.Fatalf("TreeAdd of %v to %s: %v %s, not %v %s", b, shortNode(n), ok, shortNode(got), wantOk, shortNode(want))
	}
	if ok && !impl.TreeOk(got) {
		t.Fatal("no tree:", shortNode(got))
	}
	return got
}

func checkTreeTake(t *testing.T, n impl.Node, id int) impl.Node {
	t.Helper()
	want, wantOk := wantTreeTake(n, id)
	got, ok := impl.TreeTake(n, id)
	if ok != wantOk || !sameNode(got, want) {
		t.Fatalf("TreeTake of %d from %s: %v %s, not %v %s", id, shortNode(n), ok, shortNode(got), wantOk, shortNode(want))
	}
	if ok && !impl.TreeOk(got) {
		t.Fatal("no tree:", shortNode(got))
	}
	return got
}

// mustTreeAdd: b is added, and what comes of it is want.
func mustTreeAdd(t *testing.T, what string, n impl.Node, b idBox, want impl.Node) {
	t.Helper()
	if got, ok := impl.TreeAdd(n, b.id, b.box); !ok || !sameNode(got, want) {
		t.Errorf("%s: %v %s, not %s", what, ok, shortNode(got), shortNode(want))
	}
	checkTreeAdd(t, n, b)
}

// mustTreeTake: id is taken, and what is left is want.
func mustTreeTake(t *testing.T, what string, n impl.Node, id int, want impl.Node) {
	t.Helper()
	if got, ok := impl.TreeTake(n, id); !ok || !sameNode(got, want) {
		t.Errorf("%s: %v %s, not %s", what, ok, shortNode(got), shortNode(want))
	}
	checkTreeTake(t, n, id)
}

func checkTreeFind(t *testing.T, n impl.Node, list []idBox, window impl.Box) {
	t.Helper()
	want := wantFound(list, window)
	if got := impl.TreeFind(n, window); !slices.Equal(got, want) {
		t.Fatalf("TreeFind of %v in %s: %v, not %v", window, shortNode(n), got, want)
	}
}

// besideBox are windows that have one point together with a box, or one of its edges, and others that are one off.
func besideBox(b impl.Box) []impl.Box {
	lo, hi := b.Lo, b.Hi
	var out []impl.Box
	for off := range 2 {
		out = append(out,
			box(hi.X+off, lo.Y, hi.X+5, hi.Y), box(lo.X-5, lo.Y, lo.X-off, hi.Y), box(lo.X, hi.Y+off, hi.X, hi.Y+5), box(lo.X, lo.Y-5, hi.X, lo.Y-off),
			box(hi.X+off, hi.Y+off, hi.X+5, hi.Y+5), box(lo.X-5, lo.Y-5, lo.X-off, lo.Y-off), box(hi.X+off, lo.Y-5, hi.X+5, lo.Y-off), box(lo.X-5, hi.Y+off, lo.X-off, hi.Y+5))
	}
	return out
}

// windowsOn are windows of every kind that tell something of a list of boxes.
func windowsOn(list []idBox, count int) []impl.Box {
	out := append(rightBoxes(), wrongBoxes()[:6]...)
	for i, b := range list {
		if i%max(1, len(list)/count) == 0 {
			out = append(out, b.box, impl.Box{Lo: b.box.Lo, Hi: b.box.Lo}, impl.Box{Lo: b.box.Hi, Hi: b.box.Hi}, box(b.box.Lo.X, -most, b.box.Lo.X, most), box(-most, b.box.Hi.Y, most, b.box.Hi.Y))
			out = append(out, besideBox(b.box)...)
		}
	}
	return out
}

// checkTree: n is a tree, and tells what it holds.
func checkTree(t *testing.T, n impl.Node) []idBox {
	t.Helper()
	depth, _, ok := wantTreeOk(n, true)
	if !ok || !impl.TreeOk(n) {
		t.Fatal("is a tree:", ok, shortNode(n))
	}
	list := allIn(n)
	if got := impl.TreeIds(n); !slices.Equal(got, idsIn(list)) {
		t.Fatalf("TreeIds of %s: %v", shortNode(n), got)
	}
	if got := impl.TreeDepth(n); got != depth {
		t.Fatalf("TreeDepth of %s: %d, not %d", shortNode(n), got, depth)
	}
	return list
}

// checkNoTree: n is none, by each call.
func checkNoTree(t *testing.T, what string, n impl.Node) {
	t.Helper()
	if _, _, ok := wantTreeOk(n, true); ok || impl.TreeOk(n) {
		t.Fatal("is no tree:", what, ok, shortNode(n))
	}
	if impl.TreeDepth(n) != 0 || len(impl.TreeIds(n)) != 0 || len(impl.TreeFind(n, world())) != 0 {
		t.Fatal("tells something:", what, impl.TreeDepth(n), impl.TreeIds(n), impl.TreeFind(n, world()))
	}
	if got, ok := impl.TreeAdd(n, 7, box(0, 0, 1, 1)); ok || !sameNode(got, n) {
		t.Fatal("is added to:", what, ok, shortNode(got))
	}
	ids := []int{0, 1, 7}
	for _, b := range n.Ids {
		ids = append(ids, b)
	}
	for _, id := range ids {
		if got, ok := impl.TreeTake(n, id); ok || !sameNode(got, n) {
			t.Fatal("is taken from:", what, ok, shortNode(got))
		}
	}
}

func buildOf(list []idBox) (impl.Node, bool) {
	var boxes []impl.Box
	for _, b := range list {
		boxes = append(boxes, b.box)
	}
	return impl.TreeBuild(idsIn(list), boxes)
}

func checkTreeBuild(t *testing.T, list []idBox) impl.Node {
	t.Helper()
	want := wantTreeBuild(list)
	got, ok := buildOf(list)
	if !ok || !sameNode(got, want) {
		t.Fatalf("TreeBuild of %d: %v %s, not %s", len(list), ok, shortNode(got), shortNode(want))
	}
	checkTree(t, got)
	return got
}

// nearBox is a small one, often the same as another, or with the same sums.
func (d *dice) nearBox() impl.Box {
	x, y := d.below(12)-4, d.below(12)-4
	return box(x, y, x+d.below(4), y+d.below(4))
}

func (d *dice) treeBox() impl.Box {
	if d.below(4) == 0 {
		return d.box()
	}
	return d.nearBox()
}

// treeId is often one that stands there already; now and then it is far off.
func (d *dice) treeId() int {
	far := []int{0, -1, math.MaxInt, math.MinInt, mostId + 1, -mostId, 1 << 32}
	if d.below(8) == 0 {
		return far[d.below(len(far))]
	}
	return d.below(40)
}

// idBoxes are so many of a kind: far apart, near, with one box alone, along a line.
func (d *dice) idBoxes(count int) []idBox {
	kind := d.below(5)
	one := d.nearBox()
	var out []idBox
	for i := range count {
		b := idBox{d.treeId(), d.treeBox()}
		switch kind {
		case 0:
			b.box = one
		case 1:
			b.box = box(2*i, 0, 2*i+1, 1)
		case 2:
			b.box = box(0, -3*i, 0, -3*i)
		}
		out = append(out, b)
	}
	return out
}

func TestTreeLimits(t *testing.T) {
	if impl.MaxNode != mostNode || impl.MaxTree != mostTree {
		t.Error("limits:", impl.MaxNode, impl.MaxTree)
	}
}

func TestTreesThatAreRight(t *testing.T) {
	for what, c := range map[string]struct {
		n     impl.Node
		ids   []int
		depth int
	}{
		"the zero Node":                    {impl.Node{}, nil, 1},
		"empty lists":                      {impl.Node{Boxes: []impl.Box{}, Ids: []int{}, Kids: []impl.Node{}}, nil, 1},
		"one box":                          {leaf(with(7, box(1, 2, 3, 4))), []int{7}, 1},
		"one point at 0, 0":                {leaf(at(7, 0, 0)), []int{7}, 1},
		"one Id of 0":                      {leaf(at(0, 5, 5)), []int{0}, 1},
		"as many as may be":                {dotLeaf(1, 4), []int{1, 2, 3, 4}, 1},
		"the same Id again":                {leaf(at(7, 1, 1), at(7, 2, 2), at(7, 1, 1)), []int{7, 7, 7}, 1},
		"Ids of every kind":                {leaf(at(-1, 1, 1), at(math.MaxInt, 2, 2), at(math.MinInt, 3, 3), at(0, 4, 4)), []int{-1, math.MaxInt, math.MinInt, 0}, 1},
		"the greatest box":                 {leaf(with(1, world())), []int{1}, 1},
		"one Kid":                          {inner(dotLeaf(1, 2)), []int{1, 2}, 2},
		"one Kid, again and again":         {onKid(dotLeaf(1, 2), 9), []int{1, 2}, 10},
		"two Kids":                         {inner(dotLeaf(5, 2), dotLeaf(1, 3)), []int{5, 6, 1, 2, 3}, 2},
		"as many Kids as may be":           {inner(dotLeaf(1, 1), dotLeaf(2, 1), dotLeaf(3, 1), dotLeaf(4, 1)), []int{1, 2, 3, 4}, 2},
		"Kids that are the same":           {inner(dotLeaf(1, 2), dotLeaf(1, 2)), []int{1, 2, 1, 2}, 2},
		"Kids of one Kid beside of many":   {inner(inner(dotLeaf(1, 1)), inner(dotLeaf(2, 4), dotLeaf(9, 2))), []int{1, 2, 3, 4, 5, 9, 10}, 3},
		"Kids within Kids":                 {inner(inner(dotLeaf(4, 1), dotLeaf(1, 1)), inner(dotLeaf(3, 1)), inner(dotLeaf(2, 1))), []int{4, 1, 3, 2}, 3},
		"an empty leaf of lists with room": {impl.Node{Boxes: make([]impl.Box, 0, 3), Ids: make([]int, 0, 9), Kids: make([]impl.Node, 0, 2)}, nil, 1},
	} {
		list := checkTree(t, c.n)
		if !impl.TreeOk(c.n) || !slices.Equal(impl.TreeIds(c.n), c.ids) || impl.TreeDepth(c.n) != c.depth {
			t.Error(what, impl.TreeIds(c.n), impl.TreeDepth(c.n))
		}
		for _, window := range windowsOn(list, 9) {
			checkTreeFind(t, c.n, list, window)
		}
	}
}

// nodeWith is n with another Node at the end of a way by Kids; the Nodes above have the Box that they must have then.
func nodeWith(n impl.Node, way []int, other impl.Node) impl.Node {
	if len(way) == 0 {
		return other
	}
	kids := slices.Clone(n.Kids)
	kids[way[0]] = nodeWith(kids[way[0]], way[1:], other)
	n.Kids = kids
	n.Box = joinedByWords(boxesIn(n))
	return n
}

// joinedByWords joins what is no box, too.
func joinedByWords(list []impl.Box) impl.Box {
	var right []impl.Box
	for _, b := range list {
		if impl.BoxOk(b) {
			right = append(right, b)
		}
	}
	return wantJoined(right)
}

func nodeAt(n impl.Node, way []int) impl.Node {
	for _, i := range way {
		n = n.Kids[i]
	}
	return n
}

// waysIn are the ways to all Nodes of a tree.
func waysIn(n impl.Node) [][]int {
	out := [][]int{nil}
	for i, kid := range n.Kids {
		for _, way := range waysIn(kid) {
			out = append(out, append([]int{i}, way...))
		}
	}
	return out
}

// boxFaults are a Node with another Box than that which it must have.
func boxFaults(n impl.Node) map[string]impl.Node {
	out := map[string]impl.Node{}
	for what, b := range map[string]impl.Box{
		"Lo.X less": box(n.Box.Lo.X-1, n.Box.Lo.Y, n.Box.Hi.X, n.Box.Hi.Y), "Lo.Y less": box(n.Box.Lo.X, n.Box.Lo.Y-1, n.Box.Hi.X, n.Box.Hi.Y),
		"Hi.X more": box(n.Box.Lo.X, n.Box.Lo.Y, n.Box.Hi.X+1, n.Box.Hi.Y), "Hi.Y more": box(n.Box.Lo.X, n.Box.Lo.Y, n.Box.Hi.X, n.Box.Hi.Y+1),
		"Lo.X more": box(n.Box.Lo.X+1, n.Box.Lo.Y, n.Box.Hi.X, n.Box.Hi.Y), "Lo.Y more": box(n.Box.Lo.X, n.Box.Lo.Y+1, n.Box.Hi.X, n.Box.Hi.Y),
		"Hi.X less": box(n.Box.Lo.X, n.Box.Lo.Y, n.Box.Hi.X-1, n.Box.Hi.Y), "Hi.Y less": box(n.Box.Lo.X, n.Box.Lo.Y, n.Box.Hi.X, n.Box.Hi.Y-1),
		"the world": world(), "no box": box(1, 0, 0, 0), "0, 0 too": wantJoined([]impl.Box{n.Box, {}}), "0, 0 alone": {},
	} {
		if other := n; b != n.Box {
			other.Box = b
			out["a Box with "+what] = other
		}
	}
	return out
}

// changedNode is n with a change, and with the Box that it must have then.
func changedNode(n impl.Node, change func(*impl.Node)) impl.Node {
	other := nodeCopy(n)
	change(&other)
	other.Box = joinedByWords(boxesIn(other))
	return other
}

// leafFaults are a leaf with one thing wrong.
func leafFaults(n impl.Node, top bool) map[string]impl.Node {
	out := boxFaults(n)
	put := func(what string, change func(*impl.Node)) { out[what] = changedNode(n, change) }
	some := idBox{77, box(1, 1, 2, 2)}
	put("a leaf with a Kid", func(n *impl.Node) {
		n.Kids = []impl.Node{leaf(some)}
		if len(n.Ids) == 0 {
			n.Ids = []int{7}
		}
	})
	put("a Box more than Ids", func(n *impl.Node) { n.Boxes = append(n.Boxes, some.box) })
	put("an Id more than Boxes", func(n *impl.Node) { n.Ids = append(n.Ids, some.id) })
	put("too many", func(n *impl.Node) {
		for len(n.Ids) <= mostNode {
			n.Boxes, n.Ids = append(n.Boxes, some.box), append(n.Ids, some.id)
		}
	})
	put("too many Ids", func(n *impl.Node) {
		for len(n.Ids) <= mostNode {
			n.Ids = append(n.Ids, some.id)
		}
	})
	put("too many Boxes", func(n *impl.Node) {
		for len(n.Boxes) <= mostNode {
			n.Boxes = append(n.Boxes, some.box)
		}
	})
	if len(n.Ids) > 0 {
		put("no Ids", func(n *impl.Node) { n.Ids = nil })
		put("no Boxes", func(n *impl.Node) { n.Boxes = nil })
		put("an Id less", func(n *impl.Node) { n.Ids = n.Ids[:len(n.Ids)-1] })
		put("a Box less", func(n *impl.Node) { n.Boxes = n.Boxes[:len(n.Boxes)-1] })
	}
	if !top {
		put("nothing", func(n *impl.Node) { *n = impl.Node{} })
	}
	for i := range n.Boxes {
		for j, wrong := range wrongBoxes()[:16] {
			put(fmt.Sprint("no box ", i, j), func(n *impl.Node) { n.Boxes[i] = wrong })
			if len(n.Boxes) == 1 {
				other := out[fmt.Sprint("no box ", i, j)]
				other.Box = wrong
				out[fmt.Sprint("no box alone ", i, j)] = other
			}
		}
	}
	return out
}

// innerFaults are an inner Node with one thing wrong.
func innerFaults(n impl.Node, top bool) map[string]impl.Node {
	out := boxFaults(n)
	put := func(what string, change func(*impl.Node)) { out[what] = changedNode(n, change) }
	b := n.Box
	put("a Box and an Id", func(n *impl.Node) { n.Boxes, n.Ids = []impl.Box{b}, []int{1} })
	put("a Box", func(n *impl.Node) { n.Boxes = []impl.Box{b} })
	put("an Id", func(n *impl.Node) { n.Ids = []int{1} })
	put("too many Kids", func(n *impl.Node) {
		for len(n.Kids) <= mostNode {
			n.Kids = append(n.Kids, n.Kids[0])
		}
	})
	put("far too many Kids", func(n *impl.Node) { n.Kids = slices.Repeat(n.Kids, 300) })
	put("an empty Kid at the end", func(n *impl.Node) { n.Kids = append(n.Kids[:min(3, len(n.Kids)):min(3, len(n.Kids))], impl.Node{}) })
	put("an empty Kid ahead", func(n *impl.Node) { n.Kids = slices.Concat([]impl.Node{{}}, n.Kids[:min(3, len(n.Kids))]) })
	put("a first Kid deeper than others", func(n *impl.Node) {
		n.Kids = []impl.Node{inner(n.Kids[0]), n.Kids[0]}
	})
	put("a last Kid deeper than others", func(n *impl.Node) {
		n.Kids = []impl.Node{n.Kids[0], n.Kids[0], inner(n.Kids[0])}
	})
	if !top {
		put("no Kids", func(n *impl.Node) { n.Kids = nil })
	}
	noKids := nodeCopy(n)
	noKids.Kids = nil
	if noKids.Box == (impl.Box{}) {
		noKids.Box = box(1, 1, 1, 1)
	}
	out["no Kids, and its Box as it was"] = noKids
	return out
}

// treesToSpoil are right ones of each form.
func treesToSpoil() []impl.Node {
	return []impl.Node{
		{}, leaf(at(5, 0, 0)), leaf(at(5, 7, -7)), dotLeaf(1, 3), dotLeaf(1, 4), leaf(with(1, box(-9, -9, 9, 9)), at(2, 0, 0)),
		inner(dotLeaf(1, 1)), inner(dotLeaf(1, 4), dotLeaf(5, 1)), inner(dotLeaf(1, 1), dotLeaf(2, 2), dotLeaf(4, 3), dotLeaf(7, 4)),
		onKid(dotLeaf(1, 1), 3), inner(inner(dotLeaf(1, 2), dotLeaf(3, 1)), inner(dotLeaf(4, 1))),
		inner(inner(inner(dotLeaf(1, 1), dotLeaf(2, 2)), inner(dotLeaf(4, 1))), inner(inner(dotLeaf(5, 4)), inner(dotLeaf(9, 1), dotLeaf(10, 1), dotLeaf(11, 1), dotLeaf(12, 1)))),
	}
}

func TestNodesWithOneThingWrong(t *testing.T) {
	count := 0
	for _, n := range treesToSpoil() {
		checkTree(t, n)
		for _, way := range waysIn(n) {
			here := nodeAt(n, way)
			faults := leafFaults
			if len(here.Kids) > 0 {
				faults = innerFaults
			}
			for what, wrong := range faults(here, len(way) == 0) {
				count++
				checkNoTree(t, fmt.Sprint(what, " at ", way, " of ", shortNode(n)), nodeWith(n, way, wrong))
			}
			// A Node as it was spoils nothing.
			checkTree(t, nodeWith(n, way, here))
		}
		// A leaf less deep, or deeper, than the others; alone it is right.
		for _, way := range waysIn(n)[1:] {
			here := nodeAt(n, way)
			for what, other := range map[string]impl.Node{"deeper": inner(here), "less deep": dotLeaf(1, 2)} {
				changed := nodeWith(n, way, other)
				if _, _, ok := wantTreeOk(changed, true); ok {
					checkTree(t, changed)
				} else {
					checkNoTree(t, what, changed)
				}
			}
		}
	}
	if count < 1500 {
		t.Error("the test itself is wrong:", count)
	}
}

// wide is a tree of leaves with so many Ids each.
func wide(sizes ...int) impl.Node {
	var level []impl.Node
	id := 1
	for _, size := range sizes {
		level = append(level, dotLeaf(id, size))
		id += size
	}
	for len(level) > 1 {
		var above []impl.Node
		for part := range slices.Chunk(level, mostNode) {
			above = append(above, inner(part...))
		}
		level = above
	}
	return level[0]
}

func TestTreesOfManyIds(t *testing.T) {
	ones, fours, twos := slices.Repeat([]int{1}, mostTree), slices.Repeat([]int{4}, mostTree/4), slices.Repeat([]int{2}, mostTree/2)
	for what, sizes := range map[string][]int{"ones": ones, "fours": fours, "twos": twos} {
		n := wide(sizes...)
		if list := checkTree(t, n); len(list) != mostTree {
			t.Fatal("the test itself is wrong:", what, len(list))
		}
		checkTree(t, inner(n))
		for _, b := range []idBox{at(1, 1, 1), at(9999, 5000, 5000)} {
			if got, ok := impl.TreeAdd(n, b.id, b.box); ok || !sameNode(got, n) {
				t.Error("is added to a full tree:", what)
			}
		}
		less := checkTreeTake(t, n, 300)
		more := checkTreeAdd(t, less, at(9999, 5000, 5000))
		if len(checkTree(t, more)) != mostTree {
			t.Error("full again:", what)
		}
		checkNoTree(t, "one Id too many, "+what, wide(append(slices.Clone(sizes), 1)...))
		checkNoTree(t, "one Id too many, "+what, wide(append([]int{1}, sizes...)...))
		checkNoTree(t, "twice as many, "+what, wide(append(sizes, sizes...)...))
		checkNoTree(t, "full trees beside one another, "+what, inner(n, n))
	}
	fours[0] = 3
	one := wide(fours...)
	if list := checkTree(t, one); len(list) != mostTree-1 {
		t.Fatal("the test itself is wrong:", len(list))
	}
	full := checkTreeAdd(t, one, at(9999, -5, 0))
	checkTree(t, full)
	checkTreeAdd(t, full, at(1, 1, 1))
	checkTree(t, wide(mostNode, 3, 1))
}

func TestTreeAddToALeaf(t *testing.T) {
	n := impl.Node{}
	mustTreeAdd(t, "the first", n, with(5, box(3, 4, 6, 7)), impl.Node{Box: box(3, 4, 6, 7), Boxes: []impl.Box{box(3, 4, 6, 7)}, Ids: []int{5}})
	mustTreeAdd(t, "the first, a point", n, at(-1, -9, -9), leaf(at(-1, -9, -9)))
	mustTreeAdd(t, "the first, at 0, 0", n, at(0, 0, 0), leaf(at(0, 0, 0)))
	mustTreeAdd(t, "the first, the world", n, with(0, world()), leaf(with(0, world())))
	mustTreeAdd(t, "the second, at the left", leaf(at(1, 5, 5)), at(2, 3, 6), impl.Node{Box: box(3, 5, 5, 6), Boxes: []impl.Box{box(5, 5, 5, 5), box(3, 6, 3, 6)}, Ids: []int{1, 2}})
	mustTreeAdd(t, "the same again", leaf(at(1, 5, 5)), at(1, 5, 5), leaf(at(1, 5, 5), at(1, 5, 5)))
	mustTreeAdd(t, "the fourth", leaf(at(9, 9, 9), at(1, 5, 5), at(3, 2, 2)), at(4, 0, 7), leaf(at(9, 9, 9), at(1, 5, 5), at(3, 2, 2), at(4, 0, 7)))
	for _, id := range []int{math.MaxInt, math.MinInt, 0, -1, mostId + 1} {
		mustTreeAdd(t, "any Id", leaf(at(1, 5, 5)), at(id, 1, 1), leaf(at(1, 5, 5), at(id, 1, 1)))
	}
}

func TestTreeSplitsALeaf(t *testing.T) {
	for _, c := range []struct {
		what  string
		full  []idBox
		added idBox
		want  []idBox // two that stay, and three
	}{
		{"by X, in order", []idBox{at(1, 0, 0), at(2, 10, 0), at(3, 20, 0), at(4, 30, 0)}, at(5, 40, 0), []idBox{at(1, 0, 0), at(2, 10, 0), at(3, 20, 0), at(4, 30, 0), at(5, 40, 0)}},
		{"by X, backward", []idBox{at(1, 40, 0), at(2, 30, 0), at(3, 20, 0), at(4, 10, 0)}, at(5, 0, 0), []idBox{at(5, 0, 0), at(4, 10, 0), at(3, 20, 0), at(2, 30, 0), at(1, 40, 0)}},
		{"by X, the new one in the midst", []idBox{at(1, 40, 0), at(2, 0, 0), at(3, 30, 0), at(4, 10, 0)}, at(5, 20, 0), []idBox{at(2, 0, 0), at(4, 10, 0), at(5, 20, 0), at(3, 30, 0), at(1, 40, 0)}},
		{"by Y", []idBox{at(1, 0, 40), at(2, 1, 0), at(3, 2, 30), at(4, 3, 10)}, at(5, 4, 20), []idBox{at(2, 1, 0), at(4, 3, 10), at(5, 4, 20), at(3, 2, 30), at(1, 0, 40)}},
		{"as far both ways: by X", []idBox{at(1, 4, 0), at(2, 3, 1), at(3, 2, 2), at(4, 1, 3)}, at(5, 0, 4), []idBox{at(5, 0, 4), at(4, 1, 3), at(3, 2, 2), at(2, 3, 1), at(1, 4, 0)}},
		{"one farther by Y", []idBox{at(1, 4, 0), at(2, 3, 1), at(3, 2, 2), at(4, 1, 3)}, at(5, 0, 5), []idBox{at(1, 4, 0), at(2, 3, 1), at(3, 2, 2), at(4, 1, 3), at(5, 0, 5)}},
		{"one farther by X", []idBox{at(1, 5, 0), at(2, 3, 1), at(3, 2, 2), at(4, 1, 3)}, at(5, 0, 4), []idBox{at(5, 0, 4), at(4, 1, 3), at(3, 2, 2), at(2, 3, 1), at(1, 5, 0)}},
		{"farther by the sums, not by the box", []idBox{with(1, box(0, 0, 100, 0)), with(2, box(0, 3, 100, 3)), with(3, box(0, 2, 100, 2)), with(4, box(0, 4, 100, 4))}, with(5, box(0, 1, 100, 1)),
			[]idBox{with(1, box(0, 0, 100, 0)), with(5, box(0, 1, 100, 1)), with(3, box(0, 2, 100, 2)), with(2, box(0, 3, 100, 3)), with(4, box(0, 4, 100, 4))}},
		{"half a unit farther by Y", []idBox{with(1, box(0, 0, 0, 1)), at(2, 1, 0), at(3, 2, 0), at(4, 3, 0)}, with(5, box(0, 3, 0, 4)), []idBox{at(2, 1, 0), at(3, 2, 0), at(4, 3, 0), with(1, box(0, 0, 0, 1)), with(5, box(0, 3, 0, 4))}},
		{"all the same", []idBox{at(1, 7, 7), at(2, 7, 7), at(3, 7, 7), at(4, 7, 7)}, at(5, 7, 7), []idBox{at(1, 7, 7), at(2, 7, 7), at(3, 7, 7), at(4, 7, 7), at(5, 7, 7)}},
		{"the same sums of other boxes", []idBox{with(1, box(-9, 0, 9, 0)), with(2, box(-1, 0, 1, 0)), with(3, box(-5, 0, 5, 0)), at(4, 0, 0)}, with(5, box(-7, 0, 7, 0)),
			[]idBox{with(1, box(-9, 0, 9, 0)), with(2, box(-1, 0, 1, 0)), with(3, box(-5, 0, 5, 0)), at(4, 0, 0), with(5, box(-7, 0, 7, 0))}},
		{"some the same", []idBox{at(1, 9, 0), at(2, 1, 0), at(3, 9, 1), at(4, 1, 1)}, at(5, 1, 2), []idBox{at(2, 1, 0), at(4, 1, 1), at(5, 1, 2), at(1, 9, 0), at(3, 9, 1)}},
		{"the same at the cut", []idBox{at(1, 9, 0), at(2, 5, 5), at(3, 5, 1), at(4, 1, 1)}, at(5, 5, 2), []idBox{at(4, 1, 1), at(2, 5, 5), at(3, 5, 1), at(5, 5, 2), at(1, 9, 0)}},
		{"below 0", []idBox{at(1, -10, 0), at(2, -40, 0), at(3, -30, 0), at(4, -20, 0)}, at(5, -50, 0), []idBox{at(5, -50, 0), at(2, -40, 0), at(3, -30, 0), at(4, -20, 0), at(1, -10, 0)}},
		{"at the ends of the world", []idBox{at(1, most, most), at(2, -most, -most), at(3, most, -most), at(4, -most, most)}, with(5, world()), []idBox{at(2, -most, -most), at(4, -most, most), with(5, world()), at(1, most, most), at(3, most, -most)}},
	} {
		mustTreeAdd(t, c.what, leaf(c.full...), c.added, inner(leaf(c.want[:2]...), leaf(c.want[2:]...)))
	}
	// The Boxes, by hand.
	got, ok := impl.TreeAdd(leaf(at(1, 0, 9), at(2, 10, 1), at(3, 20, 5), at(4, 30, -3)), 5, box(38, 2, 42, 6))
	if !ok || got.Box != box(0, -3, 42, 9) || got.Kids[0].Box != box(0, 1, 10, 9) || got.Kids[1].Box != box(20, -3, 42, 6) {
		t.Error("the Boxes behind a split:", got)
	}
}

func TestTreeAddTakesAKid(t *testing.T) {
	// Each of these leaves has one box alone.
	of := func(boxes ...impl.Box) impl.Node {
		var kids []impl.Node
		for i, b := range boxes {
			kids = append(kids, leaf(with(i+1, b)))
		}
		return inner(kids...)
	}
	for _, c := range []struct {
		what  string
		boxes []impl.Box
		added impl.Box
		want  int
	}{
		{"within the last", []impl.Box{box(0, 0, 1, 1), box(2, 0, 3, 1), box(4, 0, 9, 9)}, box(5, 5, 6, 6), 2},
		{"within the first", []impl.Box{box(0, 0, 9, 9), box(20, 0, 23, 1)}, box(5, 5, 6, 6), 0},
		{"the least Grown, not the least box", []impl.Box{box(0, 0, 1, 1), box(5, 0, 9, 9)}, box(3, 0, 3, 9), 1},
		{"the least Grown, not the nearest", []impl.Box{box(0, 0, 10, 10), box(13, 5, 14, 6)}, box(11, 0, 11, 10), 0},
		{"Grown as much: the least BoxArea", []impl.Box{box(0, 0, 9, 9), box(1, 1, 8, 8), box(2, 2, 7, 7)}, box(4, 4, 5, 5), 2},
		{"the least BoxArea in the midst", []impl.Box{box(0, 0, 9, 9), box(2, 2, 7, 7), box(1, 1, 8, 8)}, box(4, 4, 5, 5), 1},
		{"the same BoxArea: the first", []impl.Box{box(0, 0, 9, 9), box(2, 2, 7, 7), box(3, 3, 8, 8)}, box(4, 4, 5, 5), 1},
		{"all the same: the first", []impl.Box{box(0, 0, 9, 9), box(0, 0, 9, 9), box(0, 0, 9, 9), box(0, 0, 9, 9)}, box(4, 4, 5, 5), 0},
		{"Grown as much beside it", []impl.Box{box(0, 0, 4, 4), box(8, 0, 12, 4)}, box(6, 0, 6, 4), 0},
		{"Grown as much, of less BoxArea", []impl.Box{box(0, 0, 4, 4), box(8, 0, 11, 4)}, box(6, 0, 6, 4), 1},
		{"points on a line grow by nothing", []impl.Box{box(0, 0, 0, 0), box(0, 50, 0, 50), box(1, 1, 1, 1)}, box(0, 49, 0, 49), 0},
		{"a flat one grows by nothing", []impl.Box{box(7, 3, 7, 3), box(0, 0, 90, 0)}, box(400, 0, 400, 0), 1},
		{"far ones", []impl.Box{box(-most, -most, -most+1, -most+1), box(most-2, most-2, most, most)}, box(0, 0, 0, 0), 1},
		{"the same Grown, far", []impl.Box{box(-most, -most, -most+1, -most+1), box(most-1, most-1, most, most)}, box(0, 0, 0, 0), 0},
		{"almost the same Grown, far", []impl.Box{box(-most, -most, -most+1, -most+1), box(most-1, most-1, most, most)}, box(1, 1, 1, 1), 1},
	} {
		n := of(c.boxes...)
		want := nodeCopy(n)
		kid := &want.Kids[c.want]
		kid.Boxes, kid.Ids = append(kid.Boxes, c.added), append(kid.Ids, 9)
		*kid = fitted(*kid)
		mustTreeAdd(t, c.what, n, with(9, c.added), fitted(want))
	}
	// The Boxes of Kids count, not what is in them: the first one's Box has the point, its boxes are far from it.
	n := inner(leaf(at(1, 0, 0), at(2, 100, 100)), leaf(at(3, 200, 50), at(4, 201, 51)))
	mustTreeAdd(t, "within a Box, far from its boxes", n, at(9, 99, 1), inner(leaf(at(1, 0, 0), at(2, 100, 100), at(9, 99, 1)), leaf(at(3, 200, 50), at(4, 201, 51))))
}

func TestTreeSplitsInnerNodes(t *testing.T) {
	// Leaves side by side: the second one is full, and is split; there is room above it.
	a, b, c, d := dotLeaf(1, 2), leaf(at(11, 100, 0), at(12, 104, 4), at(13, 108, 0), at(14, 112, 4)), dotLeaf(101, 3), dotLeaf(201, 1)
	low, high := leaf(at(11, 100, 0), at(12, 104, 4)), leaf(at(99, 106, 2), at(13, 108, 0), at(14, 112, 4))
	mustTreeAdd(t, "the other half right behind it", inner(a, b, c), at(99, 106, 2), inner(a, low, high, c))
	mustTreeAdd(t, "the first Kid", inner(b, a, c), at(99, 106, 2), inner(low, high, a, c))
	mustTreeAdd(t, "the last Kid", inner(a, c, b), at(99, 106, 2), inner(a, c, low, high))
	mustTreeAdd(t, "the only Kid", inner(b), at(99, 106, 2), inner(low, high))
	mustTreeAdd(t, "a split that goes up to the root", inner(a, b, c, d), at(99, 106, 2), inner(inner(a, low), inner(high, c, d)))
	mustTreeAdd(t, "Kids are put in order", inner(d, b, a, c), at(99, 106, 2), inner(inner(a, low), inner(high, c, d)))
	mustTreeAdd(t, "one that stops half-way", inner(inner(a, b, c, d)), at(99, 106, 2), inner(inner(a, low), inner(high, c, d)))
	// A root of one Kid keeps it where nothing is split.
	mustTreeAdd(t, "one Kid alone stays", onKid(a, 3), at(99, 3, 0), onKid(leaf(at(1, 3, 1), at(2, 6, 0), at(99, 3, 0)), 3))
	e := leaf(at(300, 900, 0))
	mustTreeAdd(t, "beside another Node", inner(inner(e), inner(a, b, c, d)), at(99, 106, 2), inner(inner(e), inner(a, low), inner(high, c, d)))
	mustTreeAdd(t, "ahead of another Node", inner(inner(a, b, c, d), inner(e)), at(99, 106, 2), inner(inner(a, low), inner(high, c, d), inner(e)))
	f, g := leaf(at(301, 1000, 0)), leaf(at(302, 1100, 0))
	mustTreeAdd(t, "two levels up to the root", inner(inner(g), inner(e), inner(a, b, c, d), inner(f)), at(99, 106, 2),
		inner(inner(inner(a, low), inner(high, c, d)), inner(inner(e), inner(f), inner(g))))
	up := func(id, y int) impl.Node { return leaf(with(id, box(0, y, 2, y))) }
	full := leaf(at(21, 0, 40), at(22, 1, 40), at(23, 2, 40), at(24, 0, 41))
	mustTreeAdd(t, "Kids by Y", inner(up(1, 90), full, up(2, 10), up(3, 60)), at(99, 1, 41),
		inner(inner(up(2, 10), leaf(at(21, 0, 40), at(24, 0, 41))), inner(leaf(at(22, 1, 40), at(99, 1, 41), at(23, 2, 40)), up(3, 60), up(1, 90))))
	// With the Box that the last Kid had ahead of the adding, X would reach as far as Y.
	one, two, three := leaf(at(1, 0, 0)), leaf(at(2, 10, 20)), leaf(at(3, 5, 15))
	mustTreeAdd(t, "Kids by the Boxes that they have then", inner(three, one, two, leaf(at(4, 20, 5), at(5, 20, 6), at(6, 20, 7), at(7, 20, 8))), at(8, 20, 40),
		inner(inner(one, leaf(at(4, 20, 5), at(5, 20, 6))), inner(three, two, leaf(at(6, 20, 7), at(7, 20, 8), at(8, 20, 40)))))
}

func TestTreeAddRefuses(t *testing.T) {
	for _, n := range append(treesToSpoil(), wide(4, 4, 4, 4, 4)) {
		for _, wrong := range wrongBoxes() {
			if got, ok := impl.TreeAdd(n, 7, wrong); ok || !sameNode(got, n) {
				t.Fatal("no box is added:", wrong, shortNode(n))
			}
		}
		checkTreeAdd(t, n, with(7, box(0, 0, 0, 0)))
	}
	full := wide(slices.Repeat([]int{4}, mostTree/4)...)
	for _, wrong := range wrongBoxes()[:5] {
		if got, ok := impl.TreeAdd(full, 7, wrong); ok || !sameNode(got, full) {
			t.Fatal("no box, and no room:", wrong)
		}
	}
	broken := dotLeaf(1, 5)
	for _, b := range []impl.Box{box(0, 0, 1, 1), box(1, 0, 0, 0)} {
		if got, ok := impl.TreeAdd(broken, 7, b); ok || !sameNode(got, broken) {
			t.Fatal("no tree:", b)
		}
	}
}

func TestTreeTakesByExample(t *testing.T) {
	mustTreeTake(t, "the last of all", leaf(at(5, 7, 7)), 5, impl.Node{})
	mustTreeTake(t, "the first of a leaf", leaf(at(5, 7, 7), at(6, 1, 9)), 5, leaf(at(6, 1, 9)))
	mustTreeTake(t, "the last of a leaf", leaf(at(5, 7, 7), at(6, 1, 9)), 6, leaf(at(5, 7, 7)))
	mustTreeTake(t, "one in the midst", leaf(at(1, 9, 9), at(2, 0, 0), at(3, 5, 5), at(4, 6, 7)), 2, leaf(at(1, 9, 9), at(3, 5, 5), at(4, 6, 7)))
	mustTreeTake(t, "the first of several", leaf(at(1, 9, 9), at(2, 0, 0), at(3, 5, 5), at(2, 6, 7)), 2, leaf(at(1, 9, 9), at(3, 5, 5), at(2, 6, 7)))
	mustTreeTake(t, "the first of several, in another leaf", inner(leaf(at(1, 9, 9)), leaf(at(3, 0, 0), at(2, 1, 1)), leaf(at(2, 5, 5))), 2, inner(leaf(at(1, 9, 9)), leaf(at(3, 0, 0)), leaf(at(2, 5, 5))))
	for _, id := range []int{math.MaxInt, math.MinInt, 0, -1} {
		mustTreeTake(t, "any Id", leaf(at(1, 9, 9), at(id, 0, 0)), id, leaf(at(1, 9, 9)))
	}
	a, b, c := dotLeaf(1, 1), dotLeaf(2, 2), dotLeaf(4, 1)
	mustTreeTake(t, "a leaf that has nothing left", inner(b, a, c), 1, inner(b, c))
	mustTreeTake(t, "the first leaf", inner(a, b, c), 1, inner(b, c))
	mustTreeTake(t, "the last leaf", inner(a, b, c), 4, inner(a, b))
	mustTreeTake(t, "one Kid alone is left", inner(a, b), 1, b)
	mustTreeTake(t, "one Kid alone, again and again", inner(inner(inner(a)), inner(inner(b))), 1, b)
	mustTreeTake(t, "down to a Node of two", inner(inner(inner(a)), inner(inner(b, c), inner(a))), 1, inner(inner(b, c), inner(a)))
	mustTreeTake(t, "a Node without Kids", inner(inner(a), inner(b, c), inner(c)), 1, inner(inner(b, c), inner(c)))
	mustTreeTake(t, "a Node that has one Kid alone, not at the root", inner(inner(a, b), inner(c)), 1, inner(inner(b), inner(c)))
	mustTreeTake(t, "a Node and the one above it", inner(inner(inner(a)), inner(inner(b)), inner(inner(c))), 2, inner(inner(inner(a)), inner(inner(leaf(at(3, 9, 1)))), inner(inner(c))))
	mustTreeTake(t, "two Nodes above a leaf", inner(inner(inner(b)), inner(inner(a)), inner(inner(c))), 1, inner(inner(inner(b)), inner(inner(c))))
	mustTreeTake(t, "the last of all, deep down", onKid(a, 5), 1, impl.Node{})
	mustTreeTake(t, "one of two, deep down", onKid(b, 5), 2, leaf(at(3, 9, 1)))
	mustTreeTake(t, "a root of one Kid, with two below", onKid(inner(b, c), 3), 2, inner(leaf(at(3, 9, 1)), c))
	// The Boxes, by hand.
	got, ok := impl.TreeTake(inner(inner(leaf(at(1, 0, 0), at(2, 90, 5)), leaf(at(3, 6, 6))), inner(leaf(at(4, 8, -8)))), 2)
	if !ok || got.Box != box(0, -8, 8, 6) || got.Kids[0].Box != box(0, 0, 6, 6) || got.Kids[0].Kids[0].Box != box(0, 0, 0, 0) || got.Kids[1].Box != box(8, -8, 8, -8) {
		t.Error("the Boxes behind a taking:", ok, got)
	}
}

func TestTreeTakeOfNoSuchId(t *testing.T) {
	for _, n := range append(treesToSpoil(), wide(4, 4, 4, 4, 4), onKid(dotLeaf(3, 2), 4)) {
		for _, id := range []int{0, -1, 777, math.MaxInt, math.MinInt} {
			if got, ok := impl.TreeTake(n, id); ok || !sameNode(got, n) {
				t.Error("there is none:", id, shortNode(n))
			}
		}
	}
}

func TestTreeFindByExample(t *testing.T) {
	n := inner(leaf(with(9, box(0, 0, 4, 4)), with(-3, box(2, 2, 6, 6))), leaf(with(9, box(5, 0, 9, 3)), at(0, 7, 7), with(2, box(0, 5, 1, 9))))
	for _, c := range []struct {
		what   string
		window impl.Box
		want   []int
	}{
		{"all", world(), []int{-3, 0, 2, 9, 9}}, {"the Box of all", box(0, 0, 9, 9), []int{-3, 0, 2, 9, 9}},
		{"a point", box(3, 3, 3, 3), []int{-3, 9}}, {"a point of two leaves", box(5, 3, 5, 3), []int{-3, 9}}, {"a corner", box(4, 4, 4, 4), []int{-3, 9}},
		{"an Id twice", box(4, 0, 5, 1), []int{9, 9}}, {"an edge that touches", box(9, 3, 20, 20), []int{9}}, {"a corner that touches", box(7, 7, 8, 8), []int{0}},
		{"one off", box(10, 0, 20, 20), nil}, {"between", box(2, 7, 6, 9), nil}, {"within a leaf's Box, in none of its boxes", box(8, 4, 8, 8), nil},
		{"a line across", box(-5, 6, 50, 6), []int{-3, 2}}, {"no box", box(4, 4, 0, 0), nil}, {"no box, beyond the world", box(-most-1, 0, most, most), nil},
	} {
		if got := impl.TreeFind(n, c.window); !slices.Equal(got, c.want) {
			t.Error(c.what, got, "not", c.want)
		}
	}
	if got := impl.TreeFind(impl.Node{}, box(0, 0, 0, 0)); len(got) != 0 {
		t.Error("nothing is there:", got)
	}
	for _, wrong := range wrongBoxes() {
		if got := impl.TreeFind(n, wrong); len(got) != 0 {
			t.Error("no window:", wrong, got)
		}
	}
}

func TestTreeBuildByExample(t *testing.T) {
	got, ok := impl.TreeBuild(nil, nil)
	if !ok || !sameNode(got, impl.Node{}) {
		t.Error("of nothing:", ok, got)
	}
	got, ok = impl.TreeBuild([]int{-7}, []impl.Box{box(3, 4, 5, 6)})
	if !ok || !sameNode(got, leaf(with(-7, box(3, 4, 5, 6)))) {
		t.Error("of one:", ok, got)
	}
	// Along the curve: from the corner of all points up, to the right, down, and further on.
	x := func(id, a, b int) idBox { return at(id, a-most, b-most) }
	got, ok = buildOf([]idBox{x(1, 1, 0), x(2, 1, 1), x(3, 0, 0), x(4, 0, 1)})
	if !ok || !sameNode(got, leaf(x(3, 0, 0), x(4, 0, 1), x(2, 1, 1), x(1, 1, 0))) {
		t.Error("of MaxNode:", ok, got)
	}
	got, ok = buildOf([]idBox{x(1, 1, 0), x(5, 2, 0), x(2, 1, 1), x(3, 0, 0), x(4, 0, 1)})
	if !ok || !sameNode(got, inner(leaf(x(3, 0, 0), x(4, 0, 1), x(2, 1, 1), x(1, 1, 0)), leaf(x(5, 2, 0)))) {
		t.Error("of one more:", ok, got)
	}
	got, ok = buildOf([]idBox{x(1, 0, 0), x(1, 0, 0), with(2, box(-most, -most, 1-most, -most)), x(0, 0, 0)})
	if !ok || !sameNode(got, leaf(x(1, 0, 0), x(1, 0, 0), with(2, box(-most, -most, 1-most, -most)), x(0, 0, 0))) {
		t.Error("the same keys:", ok, got)
	}
}

func TestTreeBuildOfMany(t *testing.T) {
	t.Parallel()
	d := &dice{154}
	for count := range 90 {
		checkTreeBuild(t, d.idBoxes(count))
	}
	for _, count := range []int{0, 1, 4, 5, 16, 17, 64, 65, 80, 256, 257, mostSorted - 1, mostSorted, mostSorted + 1, mostSorted + 2, mostTree - 1, mostTree} {
		for range 4 {
			list := d.idBoxes(count)
			n := checkTreeBuild(t, list)
			for _, window := range windowsOn(list, 9) {
				checkTreeFind(t, n, list, window)
			}
		}
	}
	// Sizes of each level, of what is left.
	for _, c := range []struct{ count, depth, last int }{{4, 1, 4}, {5, 2, 1}, {16, 2, 4}, {17, 3, 1}, {64, 3, 4}, {65, 4, 1}, {256, 4, 4}, {257, 5, 1}, {mostSorted, 5, 4}, {mostSorted + 1, 5, 1}, {mostTree, 5, 4}} {
		n := checkTreeBuild(t, d.idBoxes(c.count))
		if impl.TreeDepth(n) != c.depth {
			t.Error("depth of", c.count, impl.TreeDepth(n))
		}
		for len(n.Kids) > 0 {
			n = n.Kids[len(n.Kids)-1]
		}
		if len(n.Ids) != c.last {
			t.Error("the last leaf of", c.count, len(n.Ids))
		}
	}
}

func TestTreeBuildOrder(t *testing.T) {
	// Backward along the curve: up to 500 the order is that of the curve, above that it is as it is.
	for _, count := range []int{7, mostSorted, mostSorted + 1, mostTree} {
		var list []idBox
		for i := range count {
			p, _ := impl.CurvePt(3 * (count - i))
			list = append(list, at(i, p.X, p.Y))
		}
		n := checkTreeBuild(t, list)
		ids := impl.TreeIds(n)
		if rising := slices.IsSorted(ids); rising != (count > mostSorted) {
			t.Error("the order of", count, ids)
		}
	}
}

func TestTreeBuildRefuses(t *testing.T) {
	d := &dice{155}
	no := func(what string, ids []int, boxes []impl.Box) {
		t.Helper()
		if got, ok := impl.TreeBuild(ids, boxes); ok || !sameNode(got, impl.Node{}) {
			t.Error(what, ok, shortNode(got))
		}
	}
	boxes := make([]impl.Box, mostTree+1)
	for i := range boxes {
		boxes[i] = d.treeBox()
	}
	ids := idsFrom(1, mostTree+1, 1)
	for _, c := range [][2]int{{1, 0}, {0, 1}, {4, 5}, {5, 4}, {mostSorted, mostSorted + 1}, {mostTree, mostTree - 1}, {mostTree - 1, mostTree}, {mostTree + 1, mostTree}, {mostTree, mostTree + 1}, {1, mostTree + 1}} {
		no(fmt.Sprint("not as many of both: ", c), ids[:c[0]], boxes[:c[1]])
	}
	no("too many", ids, boxes)
	no("far too many", slices.Repeat(ids, 9), slices.Repeat(boxes, 9))
	for _, count := range []int{1, 2, 4, 5, 17, mostSorted, mostSorted + 1, mostTree} {
		for _, place := range []int{0, 1, count / 2, count - 1} {
			for _, wrong := range wrongBoxes()[:8] {
				list := slices.Clone(boxes[:count])
				list[min(place, count-1)] = wrong
				no(fmt.Sprint("no box at ", place), ids[:count], list)
			}
		}
	}
	for _, wrong := range wrongBoxes() {
		no(fmt.Sprint("no box: ", wrong), []int{1}, []impl.Box{wrong})
	}
	if _, ok := impl.TreeBuild(ids[:mostTree], boxes[:mostTree]); !ok {
		t.Error("what lies behind does not count")
	}
}

// life is a tree, and all that was added and not taken, in no order.
type life struct {
	tree impl.Node
	all  []idBox
}

func (l *life) add(t *testing.T, b idBox) {
	t.Helper()
	if len(l.all) < mostTree && impl.BoxOk(b.box) {
		l.all = append(l.all, b)
	}
	l.tree = checkTreeAdd(t, l.tree, b)
}

func (l *life) take(t *testing.T, id int) {
	t.Helper()
	list := allIn(l.tree)
	if i := slices.Index(idsIn(list), id); i >= 0 {
		j := slices.Index(l.all, list[i])
		l.all = slices.Delete(l.all, j, j+1)
	}
	l.tree = checkTreeTake(t, l.tree, id)
}

// look: what is found in the tree is what all boxes tell.
func (l *life) look(t *testing.T, windows ...impl.Box) {
	t.Helper()
	checkTree(t, l.tree)
	for _, window := range append(windows, world()) {
		checkTreeFind(t, l.tree, l.all, window)
	}
}

func TestTreesGrowAndShrink(t *testing.T) {
	t.Parallel()
	d := &dice{156}
	for kind, order := range []func(l *life) int{
		func(l *life) int { return impl.TreeIds(l.tree)[0] },
		func(l *life) int { ids := impl.TreeIds(l.tree); return ids[len(ids)-1] },
		func(l *life) int { return l.all[0].id },
		func(l *life) int { return l.all[len(l.all)-1].id },
		func(l *life) int { return slices.Min(idsIn(l.all)) },
		func(l *life) int { return l.all[d.below(len(l.all))].id },
	} {
		for _, count := range []int{6, 40, 150} {
			l := &life{}
			for _, b := range d.idBoxes(count) {
				l.add(t, b)
				l.look(t, d.treeBox(), b.box)
			}
			l.look(t, windowsOn(l.all, 9)...)
			for len(l.all) > 0 {
				l.take(t, order(l))
				l.look(t, d.treeBox())
			}
			if !sameNode(l.tree, impl.Node{}) {
				t.Error("something is left:", kind, l.tree)
			}
		}
	}
}

func TestTreesByChance(t *testing.T) {
	t.Parallel()
	d := &dice{157}
	deepest, emptied := 0, 0
	for range 60 {
		l := &life{}
		if d.below(2) == 0 {
			l.all = d.idBoxes(d.below(60))
			l.tree = checkTreeBuild(t, l.all)
		}
		more := 1 + d.below(4)
		for range 120 {
			switch {
			case d.below(12) == 0:
				l.add(t, idBox{d.treeId(), wrongBoxes()[d.below(20)]})
			case d.below(9) == 0:
				l.take(t, d.treeId()+50)
			case d.below(5) < more:
				l.add(t, idBox{d.treeId(), d.treeBox()})
			case len(l.all) > 0:
				l.take(t, l.all[d.below(len(l.all))].id)
			}
			l.look(t, d.treeBox(), d.box())
			deepest = max(deepest, impl.TreeDepth(l.tree))
			if len(l.all) == 0 {
				emptied++
			}
		}
		l.look(t, windowsOn(l.all, 9)...)
	}
	if deepest < 4 || emptied < 20 {
		t.Error("the test itself is wrong:", deepest, emptied)
	}
}

// To the limit, one more, and back again.
func TestTreesFillUp(t *testing.T) {
	t.Parallel()
	d := &dice{158}
	for _, kind := range []func(i int) impl.Box{
		func(int) impl.Box { return d.treeBox() },
		func(i int) impl.Box { return box(i, -i, i, -i) },
		func(int) impl.Box { return box(5, 5, 9, 9) },
	} {
		l := &life{}
		for i := range mostTree {
			l.add(t, idBox{i, kind(i)})
			if i%50 == 0 {
				l.look(t, d.treeBox())
			}
		}
		l.look(t, windowsOn(l.all, 20)...)
		if len(l.all) != mostTree {
			t.Fatal("not full:", len(l.all))
		}
		for range 3 {
			before := l.tree
			l.add(t, idBox{9999, d.treeBox()})
			if !sameNode(l.tree, before) {
				t.Fatal("more than may be")
			}
		}
		for i := range mostTree {
			l.take(t, (i*7)%mostTree)
			if i%50 == 0 {
				l.look(t, d.treeBox())
				l.add(t, idBox{10000 + i, kind(i)})
			}
		}
		l.look(t, windowsOn(l.all, 20)...)
		if len(l.all) != mostTree/50 {
			t.Error("not taken:", len(l.all))
		}
	}
}

// randomTree is one that no call made: with Nodes of any number of Kids, of one too.
func (d *dice) randomTree(depth int) impl.Node {
	if depth == 1 {
		return leaf(d.idBoxes(1 + d.below(mostNode))...)
	}
	var kids []impl.Node
	for range 1 + d.below(mostNode) {
		kids = append(kids, d.randomTree(depth-1))
	}
	return inner(kids...)
}

func TestTreesOfAnyForm(t *testing.T) {
	t.Parallel()
	d := &dice{159}
	for range 400 {
		n := d.randomTree(1 + d.below(5))
		list := allIn(n)
		if len(list) > mostTree {
			checkNoTree(t, "too many Ids", n)
			continue
		}
		checkTree(t, n)
		for range 4 {
			checkTreeFind(t, n, list, d.treeBox())
			checkTreeAdd(t, n, idBox{d.treeId(), d.treeBox()})
			checkTreeTake(t, n, list[d.below(len(list))].id)
			checkTreeTake(t, n, d.treeId())
		}
		l := &life{tree: n, all: list}
		for len(l.all) > 0 && len(list) < 60 {
			l.take(t, l.all[d.below(len(l.all))].id)
			l.look(t, d.treeBox())
		}
	}
}

// spoiltTree has anything changed anywhere; it may be a tree still.
func (d *dice) spoiltTree(n impl.Node) impl.Node {
	ways := waysIn(n)
	way := ways[d.below(len(ways))]
	here := nodeCopy(nodeAt(n, way))
	switch d.below(9) {
	case 0:
		here.Box = d.treeBox()
	case 1:
		here.Boxes = append(here.Boxes, d.treeBox())
	case 2:
		here.Ids = append(here.Ids, d.treeId())
	case 3:
		here.Boxes, here.Ids = append(here.Boxes, d.treeBox()), append(here.Ids, d.treeId())
	case 4:
		here.Kids = append(here.Kids, d.randomTree(1+d.below(2)))
	case 5:
		if len(here.Kids) > 0 {
			here.Kids = here.Kids[1:]
		}
	case 6:
		if len(here.Ids) > 0 {
			here.Boxes, here.Ids = here.Boxes[1:], here.Ids[1:]
		}
	case 7:
		if len(here.Boxes) > 0 {
			here.Boxes[d.below(len(here.Boxes))] = wrongBoxes()[d.below(20)]
		}
	case 8:
		here = inner(here)
	}
	if d.below(3) > 0 {
		here.Box = joinedByWords(boxesIn(here))
	}
	return nodeWith(n, way, here)
}

func TestSpoiltTrees(t *testing.T) {
	d := &dice{160}
	right, wrong := 0, 0
	for range rounds / 2 {
		n := d.spoiltTree(d.randomTree(1 + d.below(3)))
		if _, _, ok := wantTreeOk(n, true); ok {
			right++
			list := checkTree(t, n)
			checkTreeFind(t, n, list, d.treeBox())
			checkTreeAdd(t, n, idBox{d.treeId(), d.treeBox()})
			checkTreeTake(t, n, d.treeId())
		} else {
			wrong++
			checkNoTree(t, "spoilt", n)
		}
	}
	if right < 100 || wrong < 100 {
		t.Error("the test itself is wrong:", right, wrong)
	}
}

// inOneMemory: both lists begin at the same place.
func inOneMemory[T any](a, b []T) bool { return len(a) > 0 && len(b) > 0 && &a[0] == &b[0] }

// checkEndless: a Node in which there is no end, or more than there is memory for, is no tree, and each call answers; what is answered is not of its memory. The way is that of Kids to go down by.
func checkEndless(t *testing.T, what string, n impl.Node, way func(impl.Node) int) {
	t.Helper()
	if impl.TreeOk(n) || impl.TreeDepth(n) != 0 || len(impl.TreeIds(n)) != 0 || len(impl.TreeFind(n, world())) != 0 {
		t.Fatal("is a tree:", what)
	}
	added, ok := impl.TreeAdd(n, 7, box(0, 0, 1, 1))
	taken, ok2 := impl.TreeTake(n, 7)
	if ok || ok2 {
		t.Fatal("is changed:", what)
	}
	for _, got := range []impl.Node{added, taken} {
		from := n
		for range 100000 {
			if got.Box != from.Box || !slices.Equal(got.Boxes, from.Boxes) || !slices.Equal(got.Ids, from.Ids) || len(got.Kids) != len(from.Kids) {
				t.Fatal("is not as it was:", what)
			}
			if inOneMemory(got.Boxes, from.Boxes) || inOneMemory(got.Ids, from.Ids) || inOneMemory(got.Kids, from.Kids) {
				t.Fatal("shares memory:", what)
			}
			if len(got.Kids) == 0 {
				break
			}
			i := way(from)
			got, from = got.Kids[i], from.Kids[i]
		}
	}
}

func TestTreesWithoutEnd(t *testing.T) {
	t.Parallel()
	b := box(1, 1, 2, 2)
	first := func(impl.Node) int { return 0 }
	last := func(n impl.Node) int { return len(n.Kids) - 1 }
	round := func(length, ahead int, kids func(next impl.Node) []impl.Node) impl.Node {
		list := make([]impl.Node, 1)
		n := impl.Node{Box: b, Kids: list}
		for range length - 1 {
			n = impl.Node{Box: b, Kids: kids(n)}
		}
		list[0] = n
		for range ahead {
			n = impl.Node{Box: b, Kids: kids(n)}
		}
		return n
	}
	alone := func(next impl.Node) []impl.Node { return []impl.Node{next} }
	for _, length := range []int{1, 2, 3, 4, 5, 7, 8, 9, 64, 100, 1000} {
		for _, ahead := range []int{0, 1, 2, 3, 17, 255, 256} {
			checkEndless(t, fmt.Sprint("a way round: ", length, ahead), round(length, ahead, alone), first)
		}
	}
	end := leaf(with(7, b))
	for _, length := range []int{2, 3, 8} {
		checkEndless(t, "a leaf ahead", round(length, 3, func(next impl.Node) []impl.Node { return []impl.Node{end, next} }), last)
		checkEndless(t, "a leaf behind", round(length, 3, func(next impl.Node) []impl.Node { return []impl.Node{next, end} }), first)
		checkEndless(t, "twice", round(length, 3, func(next impl.Node) []impl.Node { return []impl.Node{next, next} }), last)
		checkEndless(t, "four times", round(length, 3, func(next impl.Node) []impl.Node { return []impl.Node{next, next, next, next} }), last)
	}
	// The first way has an end, the other one has none.
	for deep := range 6 {
		checkEndless(t, "beside one that ends", inner(onKid(end, deep), round(3, deep, alone)), last)
		checkEndless(t, "beside one that ends", inner(round(3, deep, alone), onKid(end, deep)), first)
		checkEndless(t, "two of them", inner(round(3, deep, alone), round(2, deep, alone)), last)
	}
}

func TestTreesOfSharedKids(t *testing.T) {
	t.Parallel()
	// The same Kids in many places: more than there is memory for, if each were looked at.
	for _, count := range []int{2, 3, 4} {
		n := leaf(with(7, box(1, 1, 2, 2)))
		for range 60 {
			n = inner(slices.Repeat([]impl.Node{n}, count)...)
		}
		checkEndless(t, "many times the same", n, func(n impl.Node) int { return len(n.Kids) / 2 })
	}
	great := leaf(slices.Repeat([]idBox{at(1, 2, 3)}, 100000)...)
	for range 30 {
		great = inner(great, great)
	}
	checkEndless(t, "many times a great leaf", great, func(impl.Node) int { return 1 })
	many := impl.Node{Box: box(1, 1, 2, 2), Kids: slices.Repeat([]impl.Node{leaf(with(7, box(1, 1, 2, 2)))}, 200000)}
	for range 9 {
		many = inner(many, many)
	}
	checkEndless(t, "many times a great many Kids", many, func(impl.Node) int { return 1 })
	// One list of Boxes, one of Ids, or both, in a great many Kids.
	boxes, ids := make([]impl.Box, 1000000), idsFrom(1, 1000000, 1)
	for _, broad := range []impl.Node{{Boxes: boxes}, {Ids: ids}, {Boxes: boxes, Ids: ids}} {
		checkEndless(t, "a great many great leaves", impl.Node{Kids: slices.Repeat([]impl.Node{broad}, 70000)}, func(impl.Node) int { return 69999 })
	}
	// Beside more than there is memory for, lists that begin with the same Kid, Box or Id are not the same.
	kids := []impl.Node{dotLeaf(1, 1), dotLeaf(2, 2)}
	boxes, ids = []impl.Box{box(1, 1, 2, 2), box(3, 3, 4, 4)}, []int{5, 6}
	for _, some := range [][]int{{1, 2}, {2, 1}} {
		n := impl.Node{Kids: []impl.Node{great}}
		for _, count := range some {
			n.Kids = append(n.Kids, impl.Node{Kids: kids[:count]}, impl.Node{Boxes: boxes[:count], Ids: ids[:count]}, impl.Node{Boxes: boxes[:count], Kids: kids[2-count:]}, impl.Node{Ids: ids[2-count:]})
		}
		added, _ := impl.TreeAdd(n, 7, world())
		taken, _ := impl.TreeTake(n, 7)
		for _, got := range []impl.Node{added, taken} {
			if len(got.Kids) != len(n.Kids) || !slices.EqualFunc(got.Kids[1:], n.Kids[1:], sameNode) {
				t.Error("lists that begin alike:", shortNode(impl.Node{Kids: got.Kids[1:]}))
			}
		}
	}
	// As long as there are not too many, the same Kids are Kids as others are.
	n := leaf(with(7, box(1, 1, 2, 2)))
	for range 9 {
		n = inner(n, n)
	}
	list := checkTree(t, n)
	if len(list) != 512 {
		t.Fatal("the test itself is wrong:", len(list))
	}
	l := &life{tree: n, all: list}
	l.take(t, 7)
	l.add(t, at(8, 9, 9))
	l.look(t)
}

// checkOwnLists: t and false is answered of what is no tree, with each list of it in memory of its own, but for those below themselves.
func checkOwnLists(t *testing.T, what string, n impl.Node) {
	t.Helper()
	added, ok := impl.TreeAdd(n, 7, box(0, 0, 1, 1))
	taken, ok2 := impl.TreeTake(n, 7)
	if ok || ok2 || !sameOnWays(added, n, map[kidsAt]kidsAt{}) || !sameOnWays(taken, n, map[kidsAt]kidsAt{}) {
		t.Fatal("is not as it was:", what)
	}
	spans := slices.Concat(spansOnWays(added, map[kidsAt]kidsAt{}), spansOnWays(taken, map[kidsAt]kidsAt{}), distinct(spansOnWays(n, map[kidsAt]kidsAt{})))
	slices.SortFunc(spans, func(a, b span) int { return cmp.Compare(a.from, b.from) })
	for i, s := range spans[1:] {
		if s.from < spans[i].to {
			t.Fatal("two lists share memory:", what)
		}
	}
}

// kidsAt tells a list of Kids from others.
type kidsAt struct {
	first *impl.Node
	count int
}

// sameOnWays: got is as from is, as far as no list lies below itself; where one does, it is the same in both. The way are the lists of got and from that are gone through.
func sameOnWays(got, from impl.Node, way map[kidsAt]kidsAt) bool {
	if got.Box != from.Box || !slices.Equal(got.Boxes, from.Boxes) || !slices.Equal(got.Ids, from.Ids) || len(got.Kids) != len(from.Kids) {
		return false
	}
	if len(got.Kids) == 0 {
		return true
	}
	here, there := kidsAt{&got.Kids[0], len(got.Kids)}, kidsAt{&from.Kids[0], len(from.Kids)}
	if back, within := way[here]; within {
		return back == there
	}
	way[here] = there
	defer delete(way, here)
	for i, kid := range got.Kids {
		if !sameOnWays(kid, from.Kids[i], way) {
			return false
		}
	}
	return true
}

// spansOnWays are the spans of all lists, each as often as it stands in n, but not below itself.
func spansOnWays(n impl.Node, way map[kidsAt]kidsAt) []span {
	out := slices.Concat(spanOf(n.Boxes), spanOf(n.Ids))
	if len(n.Kids) == 0 {
		return append(out, spanOf(n.Kids)...)
	}
	here := kidsAt{&n.Kids[0], len(n.Kids)}
	if _, within := way[here]; within {
		return out
	}
	way[here] = here
	defer delete(way, here)
	out = append(out, spanOf(n.Kids)...)
	for _, kid := range n.Kids {
		out = append(out, spansOnWays(kid, way)...)
	}
	return out
}

// distinct spans of all that memory: where some lie in one another they are one.
func distinct(list []span) []span {
	slices.SortFunc(list, func(a, b span) int { return cmp.Compare(a.from, b.from) })
	var out []span
	for _, s := range list {
		if last := len(out) - 1; last >= 0 && s.from < out[last].to {
			out[last].to = max(out[last].to, s.to)
		} else {
			out = append(out, s)
		}
	}
	return out
}

// Each list of an answer is by itself, in however many places it stands in what was handed in.
func TestSharedKidsAreCopiedEachByItself(t *testing.T) {
	t.Parallel()
	wrong := impl.Node{Ids: []int{1, 2}}
	for _, count := range []int{1, 2, 100, 20000, 70000, 300000} {
		kids := make([]impl.Node, count)
		checkOwnLists(t, fmt.Sprint("Kids, twice: ", count), impl.Node{Kids: []impl.Node{{Kids: kids}, {Kids: kids}, wrong}})
		checkOwnLists(t, fmt.Sprint("Kids, and without the first: ", count), impl.Node{Kids: []impl.Node{{Kids: kids}, {Kids: kids[1:]}, {Kids: kids[:count/2]}, wrong}})
		boxes, ids := make([]impl.Box, count), make([]int, count)
		checkOwnLists(t, fmt.Sprint("Boxes and Ids, twice: ", count), impl.Node{Kids: []impl.Node{{Boxes: boxes, Ids: ids}, {Boxes: boxes, Ids: ids}, {Boxes: boxes}, {Ids: ids[:count/2]}, wrong}})
		checkOwnLists(t, fmt.Sprint("its own Boxes: ", count), impl.Node{Boxes: boxes, Kids: []impl.Node{{Boxes: boxes, Ids: ids}, {Ids: ids}, wrong}, Ids: ids})
	}
	// Of a great many Ids two lists are not too much.
	ids := make([]int, 17000000)
	checkOwnLists(t, "a great many Ids, twice", impl.Node{Kids: []impl.Node{{Ids: ids}, {Ids: ids}}})
	for _, deep := range []int{2, 5, 10, 14, 15, 16, 17, 18} {
		n := wrong
		for range deep {
			n = impl.Node{Box: box(1, 1, 2, 2), Kids: []impl.Node{n, n}}
		}
		checkOwnLists(t, fmt.Sprint("twice, again and again: ", deep), n)
	}
	n := impl.Node{Kids: slices.Repeat([]impl.Node{{Kids: slices.Repeat([]impl.Node{{Kids: []impl.Node{wrong, wrong}}}, 300)}}, 300)}
	checkOwnLists(t, "many times many", n)
}

// looped is a list of so many Kids, of which the first one has the list itself below it, at so many lists' distance.
func looped(count, distance int, others ...impl.Node) []impl.Node {
	list := make([]impl.Node, count)
	list[0] = onKid(impl.Node{Box: box(1, 1, 2, 2), Kids: list}, distance)
	copy(list[1:], others)
	return list
}

// Where Kids lie within themselves, all other lists are by themselves, too: those above, those below, and those on another way.
func TestSharedKidsBesideEndlessOnes(t *testing.T) {
	t.Parallel()
	shared := []impl.Node{dotLeaf(1, 2), dotLeaf(3, 2)}
	forks := impl.Node{Kids: []impl.Node{{Kids: shared}, {Kids: shared}, {Kids: shared[1:]}}}
	for _, count := range []int{1, 2, 10, 40000} {
		distances := []int{0, 1, 2, 5}
		if count > 10 {
			distances = distances[:1]
		}
		for _, distance := range distances {
			loop := looped(1, distance)
			kids := []impl.Node{{Kids: loop}}
			what := fmt.Sprint(count, distance)
			checkOwnLists(t, "a loop, many times: "+what, impl.Node{Kids: slices.Repeat([]impl.Node{{Kids: loop}}, count)})
			checkOwnLists(t, "Kids above a loop, many times: "+what, impl.Node{Kids: slices.Repeat([]impl.Node{{Kids: kids}}, count)})
			checkOwnLists(t, "the same below a loop: "+what, impl.Node{Kids: looped(3, distance, forks, forks)})
			both := looped(2, distance, forks)
			n := impl.Node{Kids: []impl.Node{{Kids: both}, {Kids: shared}, {Kids: slices.Repeat([]impl.Node{{Kids: shared}}, count)}, {Kids: both}, {Kids: kids}, {Kids: loop}, {Kids: kids}}}
			checkOwnLists(t, "above, beside and below: "+what, n)
			checkEndless(t, "by the first ones", n, func(impl.Node) int { return 0 })
			checkEndless(t, "by the last ones", n, func(n impl.Node) int { return len(n.Kids) - 1 })
		}
	}
	// A list that has itself in a great many places is not too much.
	wide := looped(40000, 0)
	for i := range wide {
		wide[i].Kids = wide
	}
	checkOwnLists(t, "itself in many places", impl.Node{Kids: []impl.Node{{Kids: wide}, {Kids: wide}}})
}

// entwined are so many lists, each of which has in its Kids all of the lists that are meant.
func entwined(lists int, isMeant func(from, to int) bool) []impl.Node {
	all := make([][]impl.Node, lists)
	for i := range all {
		all[i] = make([]impl.Node, lists)
	}
	for from := range all {
		for to := range all {
			if isMeant(from, to) {
				all[from][to] = impl.Node{Ids: []int{from, to}, Kids: all[to]}
			}
		}
	}
	return all[0]
}

func TestEntwinedKids(t *testing.T) {
	t.Parallel()
	d := &dice{1517}
	for _, lists := range []int{1, 2, 3, 4, 5} {
		n := impl.Node{Kids: entwined(lists, func(int, int) bool { return true })}
		checkOwnLists(t, fmt.Sprint("each with each: ", lists), n)
		checkOwnLists(t, fmt.Sprint("each with each, twice: ", lists), inner(n, n))
		for range 60 {
			n := impl.Node{Kids: entwined(lists, func(int, int) bool { return d.below(2) == 0 })}
			checkOwnLists(t, fmt.Sprint("by chance: ", lists), inner(n, impl.Node{Ids: []int{1}}, n))
		}
	}
	// There are more ways through these than there is memory for.
	for _, lists := range []int{13, 40} {
		n := impl.Node{Kids: entwined(lists, func(int, int) bool { return true })}
		checkEndless(t, "too many ways, by the first ones", n, func(impl.Node) int { return 0 })
		i := 0
		checkEndless(t, "too many ways, by turns", n, func(impl.Node) int { i++; return i % lists })
	}
	// What has an end below Kids without one may be too much.
	n := dotLeaf(7, 1)
	for range 60 {
		n = inner(n, n)
	}
	checkEndless(t, "a loop with too much", impl.Node{Kids: looped(2, 3, n)}, func(n impl.Node) int { return len(n.Kids) - 1 })
	checkEndless(t, "a loop beside too much", inner(n, impl.Node{Kids: looped(2, 3)}), func(n impl.Node) int { return len(n.Kids) - 1 })
}

func TestDeepTrees(t *testing.T) {
	t.Parallel()
	const deep = 60000
	l := &life{tree: onKid(dotLeaf(1, 3), deep), all: allIn(dotLeaf(1, 3))}
	if !impl.TreeOk(l.tree) || impl.TreeDepth(l.tree) != deep+1 {
		t.Fatal("is a tree:", impl.TreeDepth(l.tree))
	}
	for id := 4; id < 7; id++ {
		l.add(t, at(id, id, id))
		l.look(t, box(0, 0, 4, 4))
	}
	for _, wrong := range []impl.Node{onKid(dotLeaf(1, 5), deep), onKid(leaf(), deep), inner(onKid(dotLeaf(1, 2), deep), onKid(dotLeaf(5, 2), deep-1))} {
		checkNoTree(t, "deep down", wrong)
	}
	l.take(t, 3)
	if impl.TreeDepth(l.tree) != 2 {
		t.Error("one Kid alone, again and again:", impl.TreeDepth(l.tree))
	}
	l.look(t, box(0, 0, 4, 4))
	if got, ok := impl.TreeTake(onKid(dotLeaf(1, 1), deep), 1); !ok || !sameNode(got, impl.Node{}) {
		t.Error("the last of all, deep down")
	}
}

// span is where a list lies in memory, with the room behind it.
type span struct{ from, to uintptr }

func spanOf[T any](list []T) []span {
	if cap(list) == 0 {
		return nil
	}
	from := reflect.ValueOf(list).Pointer()
	return []span{{from, from + uintptr(cap(list))*reflect.TypeFor[T]().Size()}}
}

func spansOf(n impl.Node) []span {
	out := slices.Concat(spanOf(n.Boxes), spanOf(n.Ids), spanOf(n.Kids))
	for _, kid := range n.Kids {
		out = append(out, spansOf(kid)...)
	}
	return out
}

// checkApartFrom: no two of an answer's lists lie in the same memory, and none in that of others.
func checkApartFrom(t *testing.T, what string, answer, others []span) {
	t.Helper()
	for i, a := range answer {
		for _, b := range slices.Concat(answer[:i], others) {
			if a.from < b.to && b.from < a.to {
				t.Fatal("lists that share memory:", what)
			}
		}
	}
}

// roomyNode is the same Node in memory with room behind each list, with something in that; it tells what all of that memory holds.
func roomyNode(n impl.Node) (given impl.Node, tell func() string) {
	boxes := append(slices.Clone(n.Boxes), box(3, 3, 1, 1), box(-5, -5, 5, 5))
	ids := append(slices.Clone(n.Ids), 77, 78)
	var kids []impl.Node
	var below []func() string
	for _, kid := range n.Kids {
		roomy, tellKid := roomyNode(kid)
		kids, below = append(kids, roomy), append(below, tellKid)
	}
	kids = append(kids, leaf(at(79, 1, 1)), impl.Node{Ids: []int{1}})
	given = impl.Node{Box: n.Box, Boxes: boxes[:len(n.Boxes)], Ids: ids[:len(n.Ids)], Kids: kids[:len(n.Kids)]}
	return given, func() string {
		text := fmt.Sprint(boxes, ids, kids)
		for _, tellKid := range below {
			text += tellKid()
		}
		return text
	}
}

// treeAnswer is what any of the calls tells.
type treeAnswer struct {
	n    impl.Node
	ids  []int
	rest string
}

func (a treeAnswer) same(b treeAnswer) bool {
	return sameNode(a.n, b.n) && slices.Equal(a.ids, b.ids) && a.rest == b.rest
}

func (a treeAnswer) spans() []span { return append(spansOf(a.n), spanOf(a.ids)...) }

func treeCalls() map[string]func(n impl.Node) treeAnswer {
	add := func(id int, b impl.Box) func(n impl.Node) treeAnswer {
		return func(n impl.Node) treeAnswer {
			got, ok := impl.TreeAdd(n, id, b)
			return treeAnswer{n: got, rest: fmt.Sprint(ok)}
		}
	}
	take := func(id int) func(n impl.Node) treeAnswer {
		return func(n impl.Node) treeAnswer {
			got, ok := impl.TreeTake(n, id)
			return treeAnswer{n: got, rest: fmt.Sprint(ok)}
		}
	}
	find := func(window impl.Box) func(n impl.Node) treeAnswer {
		return func(n impl.Node) treeAnswer { return treeAnswer{ids: impl.TreeFind(n, window)} }
	}
	return map[string]func(n impl.Node) treeAnswer{
		"TreeOk":                func(n impl.Node) treeAnswer { return treeAnswer{rest: fmt.Sprint(impl.TreeOk(n))} },
		"TreeIds":               func(n impl.Node) treeAnswer { return treeAnswer{ids: impl.TreeIds(n)} },
		"TreeDepth":             func(n impl.Node) treeAnswer { return treeAnswer{rest: fmt.Sprint(impl.TreeDepth(n))} },
		"TreeAdd":               add(7, box(3, 0, 4, 1)),
		"TreeAdd, far off":      add(7, box(900, -900, 901, 0)),
		"TreeAdd of no box":     add(7, box(1, 0, 0, 0)),
		"TreeTake":              take(1),
		"TreeTake of another":   take(5),
		"TreeTake of no Id":     take(-99),
		"TreeFind":              find(box(0, 0, 30, 30)),
		"TreeFind by the world": find(world()),
		"TreeFind by no window": find(box(1, 0, 0, 0)),
	}
}

// treesForMemory are right ones, wrong ones, and some whose lists lie in one memory.
func treesForMemory() []impl.Node {
	d := &dice{161}
	out := append(treesToSpoil(), wide(slices.Repeat([]int{4}, mostTree/4)...), wide(slices.Repeat([]int{4}, 40)...), impl.Node{Boxes: make([]impl.Box, 0, 3), Ids: make([]int, 0, 3), Kids: make([]impl.Node, 0, 3)})
	for range 60 {
		n := d.randomTree(1 + d.below(3))
		out = append(out, n, d.spoiltTree(n))
	}
	for i, n := range treesToSpoil() {
		ways := waysIn(n)
		way := ways[(5*i)%len(ways)]
		here := nodeAt(n, way)
		faults := leafFaults(here, len(way) == 0)
		if len(here.Kids) > 0 {
			faults = innerFaults(here, len(way) == 0)
		}
		for _, what := range slices.Sorted(maps.Keys(faults)) {
			if len(what)%3 == 0 {
				out = append(out, nodeWith(n, way, faults[what]))
			}
		}
	}
	shared := dotLeaf(1, 4)
	kids := []impl.Node{shared, shared, shared}
	twice := inner(inner(kids...), inner(kids...), inner(kids[:2]...))
	room := inner(kids[:1]...)
	wrong := twice
	wrong.Box = world()
	return append(out, twice, room, wrong, inner(room, room, room, room, room))
}

func TestTreeCallsLeaveTheirArguments(t *testing.T) {
	t.Parallel()
	for what, call := range treeCalls() {
		for _, n := range treesForMemory() {
			want := call(nodeCopy(n))
			given, tell := roomyNode(n)
			before := tell()
			got := call(given)
			if !got.same(want) {
				t.Fatalf("%s looks at what lies behind: %s", what, shortNode(n))
			}
			if tell() != before {
				t.Fatalf("%s changes an argument: %s", what, shortNode(n))
			}
			checkApartFrom(t, what, got.spans(), spansOf(given))
			again := call(n)
			if !again.same(want) {
				t.Fatalf("%s has another answer where lists share memory: %s", what, shortNode(n))
			}
			checkApartFrom(t, what, again.spans(), slices.Concat(spansOf(n), got.spans()))
		}
	}
}

func TestTreeBuildLeavesItsArguments(t *testing.T) {
	d := &dice{162}
	for _, count := range []int{0, 1, 4, 5, 30, mostSorted, mostSorted + 1, mostTree, mostTree + 1} {
		for _, spoilt := range []bool{false, true} {
			room := d.idBoxes(count + 5)
			ids := idsIn(room)
			var boxes []impl.Box
			for i, b := range room {
				if spoilt && i == count/2 {
					b.box = box(1, 0, 0, 0)
				}
				boxes = append(boxes, b.box)
			}
			idsBefore, boxesBefore := slices.Clone(ids), slices.Clone(boxes)
			got, ok := impl.TreeBuild(ids[:count], boxes[:count])
			other, _ := impl.TreeBuild(ids[:count], boxes[:count])
			if !slices.Equal(ids, idsBefore) || !slices.Equal(boxes, boxesBefore) {
				t.Error("an argument is changed:", count)
			}
			if want, _ := impl.TreeBuild(slices.Clone(ids[:count]), slices.Clone(boxes[:count])); !sameNode(got, want) || ok != (count <= mostTree && (!spoilt || count == 0)) {
				t.Error("it looks at what lies behind:", count, ok)
			}
			checkApartFrom(t, "TreeBuild", spansOf(got), slices.Concat(spansOf(other), spanOf(ids), spanOf(boxes)))
		}
	}
}

// What was refused, or asked for ahead, leaves nothing behind; nor do calls at the same time.
func TestTreeCallsKeepNothing(t *testing.T) {
	list := treesForMemory()
	calls := treeCalls()
	tell := func(n impl.Node) string {
		text := ""
		for _, what := range slices.Sorted(maps.Keys(calls)) {
			text += fmt.Sprint(calls[what](n))
		}
		built, ok := impl.TreeBuild(n.Ids, n.Boxes)
		return text + fmt.Sprint(built, ok)
	}
	checkKeepsNothing(t, list, tell, shortNode)
}
