package tests

import (
	"bytes"
	"encoding/binary"
	"fmt"
	"maps"
	"math"
	"slices"
	"testing"

	"loop.example/g00108/impl"
)

const (
	mostId      = 1000000
	mostChanges = 40
	mostEntries = 500
)

func put(id int, s impl.Shape) impl.Change {
	return impl.Change{Kind: impl.ChangePut, Id: id, Shape: s}
}

func drop(id int) impl.Change { return impl.Change{Kind: impl.ChangeDrop, Id: id} }

func entry(id int, s impl.Shape) impl.Entry { return impl.Entry{Id: id, Shape: s} }

// dots is a map of points, each with these coordinates, with these Ids.
func dots(x, y int, ids ...int) []impl.Entry {
	var out []impl.Entry
	for _, id := range ids {
		out = append(out, entry(id, point(x, y)))
	}
	return out
}

// idsFrom are so many numbers, each greater than the one ahead by the same.
func idsFrom(first, count, by int) []int {
	var out []int
	for i := range count {
		out = append(out, first+i*by)
	}
	return out
}

func fullMap() []impl.Entry { return dots(1, 2, idsFrom(1, mostEntries, 2)...) }

func rightIds() []int { return []int{1, 2, 255, 256, 257, 65535, 65536, 999999, mostId} }

func wrongIds() []int {
	return []int{0, -1, -2, mostId + 1, mostId + 2, -mostId, 1 << 24, 1<<24 + 1, 1 << 31, 1 << 32, 1<<32 + 1, 1<<32 + mostId, -1 << 32, math.MaxInt, math.MinInt, math.MinInt + 1}
}

func wrongChangeKinds() []int {
	return []int{0, 3, 4, -1, -2, 255, 256, 257, 258, 1 << 32, 1<<32 + impl.ChangePut, 1<<32 + impl.ChangeDrop, math.MaxInt, math.MinInt, math.MinInt + impl.ChangeDrop}
}

// shapesOfEachKind are small ones, some of them almost the same.
func shapesOfEachKind() []impl.Shape {
	return []impl.Shape{
		point(1, -2), point(1, 2), points(1, -2), points(1, 2, 3, 4), points(3, 4, 1, 2), line(1, 2, 3, 4), line(3, 4, 1, 2), lines(row(1, 2, 3, 4)), lines(row(0, 0, 1, 1), row(2, 2, 3, 3, 2, 2)), lines(row(2, 2, 3, 3, 2, 2), row(0, 0, 1, 1)),
		area(row(0, 0, 1, 0, 0, 1)), area(row(1, 0, 0, 1, 0, 0)), area(square(0, 0, 9)), area(square(0, 0, 9), row(1, 1, 1, 2, 2, 1)),
	}
}

func wantChangeOk(c impl.Change) bool {
	if c.Id < 1 || c.Id > mostId {
		return false
	}
	return c.Kind == 1 && good(c.Shape) || c.Kind == 2 && c.Shape.Kind == 0 && len(c.Shape.Rings) == 0
}

func wantMapOk(m []impl.Entry) bool {
	for i, e := range m {
		if i == mostEntries || e.Id < 1 || e.Id > mostId || !good(e.Shape) {
			return false
		}
		for _, other := range m[:i] {
			if other.Id >= e.Id {
				return false
			}
		}
	}
	return true
}

// changeBytes are the bytes of a change with these bytes as its shape's.
func changeBytes(kind byte, id uint32, shape []byte) []byte {
	out := binary.LittleEndian.AppendUint32([]byte{kind}, id)
	if kind == 1 {
		out = binary.LittleEndian.AppendUint16(out, uint16(len(shape)))
	}
	return append(out, shape...)
}

func wantPutChanges(list []impl.Change) []byte {
	if len(list) > mostChanges {
		return nil
	}
	out := []byte{byte(len(list))}
	for _, c := range list {
		if !wantChangeOk(c) {
			return nil
		}
		var shape []byte
		if c.Kind == 1 {
			shape = inOrders(c.Shape, 1).bytes
		}
		out = append(out, changeBytes(byte(c.Kind), uint32(c.Id), shape)...)
	}
	return out
}

// wantGetChange reads one change, and tells what stands behind it.
func wantGetChange(b []byte) (c impl.Change, rest []byte, ok bool) {
	if len(b) < 5 {
		return c, nil, false
	}
	c, rest = impl.Change{Kind: int(b[0]), Id: int(binary.LittleEndian.Uint32(b[1:]))}, b[5:]
	if c.Kind == 1 {
		if len(rest) < 2 || len(rest)-2 < int(binary.LittleEndian.Uint16(rest)) {
			return c, nil, false
		}
		b, rest = rest[2:][:binary.LittleEndian.Uint16(rest)], rest[2+int(binary.LittleEndian.Uint16(rest)):]
		s, code, _ := wantGet(b)
		if code != impl.BytesGood || !bytes.Equal(inOrders(s, 1).bytes, b) {
			return c, nil, false
		}
		c.Shape = s
	}
	return c, rest, wantChangeOk(c)
}

func wantGetChanges(b []byte) ([]impl.Change, bool) {
	if len(b) == 0 || b[0] > mostChanges {
		return nil, false
	}
	var out []impl.Change
	rest := b[1:]
	for range b[0] {
		c, behind, ok := wantGetChange(rest)
		if !ok {
			return nil, false
		}
		out, rest = append(out, c), behind
	}
	if len(rest) > 0 {
		return nil, false
	}
	return out, true
}

func wantFind(m []impl.Entry, id int) (impl.Shape, bool) {
	at := slices.IndexFunc(m, func(e impl.Entry) bool { return e.Id == id })
	if at < 0 {
		return impl.Shape{}, false
	}
	return m[at].Shape, true
}

func wantApply(m []impl.Entry, list []impl.Change) ([]impl.Entry, bool) {
	if !wantMapOk(m) {
		return m, false
	}
	out := slices.Clone(m)
	for _, c := range list {
		if !wantChangeOk(c) {
			return m, false
		}
		at := 0
		for at < len(out) && out[at].Id < c.Id {
			at++
		}
		if at < len(out) && out[at].Id == c.Id {
			out = slices.Delete(out, at, at+1)
		}
		if c.Kind == 1 {
			out = slices.Insert(out, at, entry(c.Id, c.Shape))
		}
		if len(out) > mostEntries {
			return m, false
		}
	}
	return out, true
}

func wantBetween(a, b []impl.Entry) []impl.Change {
	if !wantMapOk(a) || !wantMapOk(b) {
		return nil
	}
	var ids []int
	for _, e := range slices.Concat(a, b) {
		ids = append(ids, e.Id)
	}
	slices.Sort(ids)
	var out []impl.Change
	for _, id := range slices.Compact(ids) {
		old, had := wantFind(a, id)
		s, has := wantFind(b, id)
		switch {
		case !has:
			out = append(out, drop(id))
		case !had || !impl.SameShape(old, s):
			out = append(out, put(id, s))
		}
	}
	return out
}

func sameEntry(a, b impl.Entry) bool { return a.Id == b.Id && impl.SameShape(a.Shape, b.Shape) }

func sameEntries(a, b []impl.Entry) bool { return slices.EqualFunc(a, b, sameEntry) }

func sameChange(a, b impl.Change) bool {
	return a.Kind == b.Kind && a.Id == b.Id && impl.SameShape(a.Shape, b.Shape)
}

func sameChanges(a, b []impl.Change) bool { return slices.EqualFunc(a, b, sameChange) }

// shortList is a text of a list that may be long.
func shortList[T any](list []T) string {
	return fmt.Sprintf("%d: %s", len(list), short(fmt.Sprint(list)))
}

func checkChangeOk(t *testing.T, what string, c impl.Change, want bool) {
	t.Helper()
	if impl.ChangeOk(c) != want || wantChangeOk(c) != want {
		t.Errorf("%s: ChangeOk of %v is not %v", what, c, want)
	}
}

func checkMapOk(t *testing.T, what string, m []impl.Entry, want bool) {
	t.Helper()
	if impl.MapOk(m) != want || wantMapOk(m) != want {
		t.Errorf("%s: MapOk of %s is not %v", what, shortList(m), want)
	}
}

// checkPutChanges: the bytes are as they must be, and the changes come back of them.
func checkPutChanges(t *testing.T, list []impl.Change) []byte {
	t.Helper()
	b, want := impl.PutChanges(list), wantPutChanges(list)
	if !bytes.Equal(b, want) {
		t.Fatalf("PutChanges of %s: %s, not %s", shortList(list), shortBytes(b), shortBytes(want))
	}
	if len(want) == 0 {
		return b
	}
	if back, ok := impl.GetChanges(b); !ok || !sameChanges(back, list) {
		t.Fatalf("PutChanges of %s comes back as %s, %v", shortList(list), shortList(back), ok)
	}
	return b
}

func checkNoChangeBytes(t *testing.T, what string, list []impl.Change) {
	t.Helper()
	if b := checkPutChanges(t, list); len(b) != 0 {
		t.Errorf("%s: %s has bytes: %s", what, shortList(list), shortBytes(b))
	}
}

// checkGetChanges holds GetChanges against the test's own reader, and tells whether they are changes.
func checkGetChanges(t *testing.T, b []byte) bool {
	t.Helper()
	got, ok := impl.GetChanges(b)
	want, wantOk := wantGetChanges(b)
	if ok != wantOk || !sameChanges(got, want) {
		t.Fatalf("GetChanges of %s: %s, %v, not %s, %v", shortBytes(b), shortList(got), ok, shortList(want), wantOk)
	}
	return ok
}

func checkNoChanges(t *testing.T, what string, b []byte) {
	t.Helper()
	if checkGetChanges(t, b) {
		t.Errorf("%s: %s are changes", what, shortBytes(b))
	}
}

func checkFind(t *testing.T, m []impl.Entry, id int) (impl.Shape, bool) {
	t.Helper()
	s, ok := impl.Find(m, id)
	if want, wantOk := wantFind(m, id); ok != wantOk || !impl.SameShape(s, want) {
		t.Fatalf("Find of %d in %s: %v %v, not %v %v", id, shortList(m), s, ok, want, wantOk)
	}
	return s, ok
}

func checkApply(t *testing.T, m []impl.Entry, list []impl.Change) ([]impl.Entry, bool) {
	t.Helper()
	got, ok := impl.ApplyChanges(m, list)
	want, wantOk := wantApply(m, list)
	if ok != wantOk || !sameEntries(got, want) {
		t.Fatalf("ApplyChanges of %s to %s: %s, %v, not %s, %v", shortList(list), shortList(m), shortList(got), ok, shortList(want), wantOk)
	}
	if ok && !impl.MapOk(got) {
		t.Fatalf("ApplyChanges of %s to %s: no map", shortList(list), shortList(m))
	}
	return got, ok
}

// checkApplied: the map behind the changes is this one.
func checkApplied(t *testing.T, what string, m []impl.Entry, list []impl.Change, want []impl.Entry) {
	t.Helper()
	if got, ok := checkApply(t, m, list); !ok || !sameEntries(got, want) {
		t.Errorf("%s: %s, %v, not %s", what, shortList(got), ok, shortList(want))
	}
}

// checkNotApplied: the map is answered as it was.
func checkNotApplied(t *testing.T, what string, m []impl.Entry, list []impl.Change) {
	t.Helper()
	if got, ok := checkApply(t, m, list); ok || !sameEntries(got, m) {
		t.Errorf("%s: %s, %v, not %s", what, shortList(got), ok, shortList(m))
	}
}

func checkBetween(t *testing.T, a, b []impl.Entry) []impl.Change {
	t.Helper()
	got := impl.Between(a, b)
	if want := wantBetween(a, b); !sameChanges(got, want) {
		t.Fatalf("Between of %s and %s: %s, not %s", shortList(a), shortList(b), shortList(got), shortList(want))
	}
	return got
}

// checkThereAndBackBetween: the changes between two maps make of each the other one.
func checkThereAndBackBetween(t *testing.T, what string, a, b []impl.Entry) {
	t.Helper()
	checkApplied(t, what, a, checkBetween(t, a, b), b)
	checkApplied(t, what+", back", b, checkBetween(t, b, a), a)
}

func TestChangeConstants(t *testing.T) {
	if impl.MaxId != mostId || impl.MaxChanges != mostChanges || impl.ChangePut != 1 || impl.ChangeDrop != 2 {
		t.Error("constants:", impl.MaxId, impl.MaxChanges, impl.ChangePut, impl.ChangeDrop)
	}
}

func TestRightAndWrongIds(t *testing.T) {
	for _, s := range shapesOfEachKind() {
		for _, id := range rightIds() {
			checkChangeOk(t, "a right Id", put(id, s), true)
			checkMapOk(t, "a right Id", []impl.Entry{entry(id, s)}, true)
		}
		for _, id := range wrongIds() {
			checkChangeOk(t, "a wrong Id", put(id, s), false)
			checkMapOk(t, "a wrong Id", []impl.Entry{entry(id, s)}, false)
		}
	}
	for _, id := range rightIds() {
		checkChangeOk(t, "a right Id", drop(id), true)
	}
	for _, id := range wrongIds() {
		checkChangeOk(t, "a wrong Id", drop(id), false)
	}
}

func TestShapesOfChanges(t *testing.T) {
	for what, s := range goodShapes() {
		checkChangeOk(t, what, put(7, s), true)
		checkChangeOk(t, what, impl.Change{Kind: impl.ChangeDrop, Id: 7, Shape: s}, false)
	}
	for what, s := range wrongShapes() {
		checkChangeOk(t, what, put(7, s), false)
		if s.Kind != 0 || len(s.Rings) > 0 {
			checkChangeOk(t, what, impl.Change{Kind: impl.ChangeDrop, Id: 7, Shape: s}, false)
		}
	}
	for _, s := range spoiltShapes() {
		checkChangeOk(t, "a spoilt shape", put(7, s), false)
	}
	// An empty list is the same as none, but a list of an empty row is not empty.
	checkChangeOk(t, "a drop without rows", impl.Change{Kind: impl.ChangeDrop, Id: 7, Shape: impl.Shape{Rings: [][]impl.Pt{}}}, true)
	checkChangeOk(t, "a drop, rows behind", impl.Change{Kind: impl.ChangeDrop, Id: 7, Shape: impl.Shape{Rings: [][]impl.Pt{row(1, 2)}[:0]}}, true)
	for _, rings := range [][][]impl.Pt{{nil}, {{}}, {row(0, 0)}, {nil, nil}, {row(0, 0, 1, 1), row(3, 3, 4, 4)}} {
		checkChangeOk(t, "a drop with rows", impl.Change{Kind: impl.ChangeDrop, Id: 7, Shape: impl.Shape{Rings: rings}}, false)
	}
	for _, kind := range append(noKinds(), allKinds()...) {
		checkChangeOk(t, "a drop with a shape's kind", impl.Change{Kind: impl.ChangeDrop, Id: 7, Shape: impl.Shape{Kind: kind}}, kind == 0)
	}
}

func TestKindsOfChanges(t *testing.T) {
	for _, kind := range wrongChangeKinds() {
		for _, s := range []impl.Shape{{}, point(1, 2), area(square(0, 0, 9))} {
			checkChangeOk(t, "no kind", impl.Change{Kind: kind, Id: 7, Shape: s}, false)
			checkNoChangeBytes(t, "no kind", []impl.Change{{Kind: kind, Id: 7, Shape: s}})
			checkNotApplied(t, "no kind", dots(3, 3, 7, 9), []impl.Change{{Kind: kind, Id: 7, Shape: s}})
		}
	}
	checkChangeOk(t, "the zero change", impl.Change{}, false)
	checkChangeOk(t, "a put without a shape", put(7, impl.Shape{}), false)
}

func TestRightMaps(t *testing.T) {
	checkMapOk(t, "no Entries", nil, true)
	checkMapOk(t, "no Entries", []impl.Entry{}, true)
	for _, count := range []int{1, 2, mostEntries - 1, mostEntries} {
		checkMapOk(t, "from the least Id on", dots(1, 2, idsFrom(1, count, 1)...), true)
		checkMapOk(t, "up to the greatest Id", dots(1, 2, idsFrom(mostId-count+1, count, 1)...), true)
		checkMapOk(t, "Ids apart", dots(1, 2, idsFrom(3, count, 1999)...), true)
	}
	var all []impl.Entry
	for i, s := range shapesOfEachKind() {
		all = append(all, entry(10+i, s))
	}
	checkMapOk(t, "shapes of each kind", all, true)
	for what, s := range goodShapes() {
		checkMapOk(t, what, []impl.Entry{entry(3, s), entry(4, s)}, true)
	}
}

func TestTooManyEntries(t *testing.T) {
	for _, count := range []int{mostEntries + 1, mostEntries + 2, 1000, 5000} {
		m := dots(1, 2, idsFrom(1, count, 1)...)
		checkMapOk(t, "too many", m, false)
		checkMapOk(t, "as many as may be, more behind", m[:mostEntries], true)
		checkNotApplied(t, "too many", m, nil)
		checkNotApplied(t, "too many, though one would be dropped", m, []impl.Change{drop(1), drop(2), drop(3)})
		if list := checkBetween(t, m, nil); len(list) != 0 {
			t.Error("Between of too many:", shortList(list))
		}
		if list := checkBetween(t, nil, m); len(list) != 0 {
			t.Error("Between of too many:", shortList(list))
		}
	}
}

// wrongMaps are those that are not MapOk, each for a reason of its own.
func wrongMaps() map[string][]impl.Entry {
	out := map[string][]impl.Entry{
		"two alike":             dots(1, 2, 5, 5),
		"falling":               dots(1, 2, 5, 4),
		"the last falls":        dots(1, 2, 3, 4, 5, 1),
		"the last is one again": dots(1, 2, 3, 4, 5, 5),
		"the first are alike":   dots(1, 2, 3, 3, 4, 5),
		"the middle falls":      dots(1, 2, 1, 2, 9, 8, 10),
		"above one further off": dots(1, 2, 1, 9, 5, 10),
		"alike, other shapes":   {entry(5, point(1, 2)), entry(5, point(2, 1))},
		"Id 0":                  dots(1, 2, 0, 1, 2),
		"an Id below 0":         dots(1, 2, -1, 1, 2),
		"all Ids below 0":       dots(1, 2, -3, -2, -1),
		"an Id too great":       dots(1, 2, 1, mostId, mostId+1),
		"an Id far too great":   dots(1, 2, 1, math.MaxInt),
		"too many":              dots(1, 2, idsFrom(1, mostEntries+1, 1)...),
		"too many, one wrong":   append(dots(1, 2, idsFrom(1, mostEntries, 1)...), impl.Entry{}),
		"the zero Entry":        {{}},
		"no shape":              {{Id: 3}},
	}
	for what, s := range inOrder(wrongShapes()) {
		out["first, "+what] = append([]impl.Entry{entry(1, s)}, dots(1, 2, 2, 3)...)
		out["last, "+what] = append(dots(1, 2, 2, 3), entry(4, s))
	}
	return out
}

func TestWrongMaps(t *testing.T) {
	right := dots(1, 2, 2, 4)
	for what, m := range wrongMaps() {
		checkMapOk(t, what, m, false)
		for _, list := range [][]impl.Change{nil, {drop(2)}, {put(2, point(5, 5))}, {drop(77)}, {put(0, point(1, 1))}} {
			checkNotApplied(t, what, m, list)
		}
		for _, list := range [][]impl.Change{checkBetween(t, m, right), checkBetween(t, right, m), checkBetween(t, m, m), checkBetween(t, m, nil), checkBetween(t, nil, m)} {
			if len(list) != 0 {
				t.Errorf("%s: Between has %s", what, shortList(list))
			}
		}
	}
	// Each of the greatest map's Entries counts.
	for _, at := range []int{0, 1, 2, 250, mostEntries - 2, mostEntries - 1} {
		m := fullMap()
		m[at].Shape = line(1, 1, 1, 1)
		checkMapOk(t, fmt.Sprint("a wrong shape at ", at), m, false)
		m = fullMap()
		m[at].Id = m[max(at-1, 0)].Id - at%2
		checkMapOk(t, fmt.Sprint("a wrong Id at ", at), m, at == 0)
	}
}

func TestChangesAsBytesByExample(t *testing.T) {
	for text, list := range map[string][]impl.Change{
		"00":                       {},
		"01 02 01000000":           {drop(1)},
		"01 02 40420f00":           {drop(mostId)},
		"01 02 04030200":           {drop(0x020304)},
		"02 02 010000000202000000": {drop(1), drop(2)},
		"02 02 020000000202000000": {drop(2), drop(2)},
		"01 01 03000000 1500 01 01000000 <1> <-2>":                                                 {put(3, point(1, -2))},
		"01 01 40420f00 2900 01 02000000 02000000 <0> <0> <5> <5>":                                 {put(mostId, line(0, 0, 5, 5))},
		"01 01 00010000 1e00 01 04000000 01000000 01 01000000 <3> <4>":                             {put(256, points(3, 4))},
		"01 01 01000000 3200 01 05000000 01000000 01 02000000 02000000 <0> <0> <1> <1>":            {put(1, lines(row(0, 0, 1, 1)))},
		"01 01 01000000 4d00 01 03000000 01000000 04000000 <0> <0> <1> <0> <0> <1> <0> <0>":        {put(1, area(row(0, 0, 1, 0, 0, 1)))},
		"03 01 01000000 1500 01 01000000 <1> <2> 02 01000000 01 01000000 1500 01 01000000 <2> <1>": {put(1, point(1, 2)), drop(1), put(1, point(2, 1))},
	} {
		want := bytesOf(t, text)
		if got := checkPutChanges(t, list); !bytes.Equal(got, want) {
			t.Errorf("PutChanges of %v: %x, not %x", list, got, want)
		}
		if got, ok := impl.GetChanges(want); !ok || !sameChanges(got, list) {
			t.Errorf("GetChanges of %s: %v %v, not %v", text, got, ok, list)
		}
		checkGetChanges(t, want)
	}
}

func TestNoChangesAreOneByte(t *testing.T) {
	for _, list := range [][]impl.Change{nil, {}, []impl.Change{drop(1)}[:0]} {
		if b := impl.PutChanges(list); !bytes.Equal(b, []byte{0}) {
			t.Errorf("no changes: %x", b)
		}
	}
	if list, ok := impl.GetChanges([]byte{0}); !ok || len(list) != 0 {
		t.Error("one byte 0:", list, ok)
	}
	for _, b := range [][]byte{nil, {}, {0, 0}, {0, 2}, {1}, {2}, {40}, {41}, {255}, {0, 2, 1, 0, 0, 0}, []byte{0}[:0]} {
		checkNoChanges(t, "not one byte 0", b)
	}
	checkApplied(t, "no changes", dots(1, 2, 3, 4), nil, dots(1, 2, 3, 4))
	checkApplied(t, "no changes of no map", nil, nil, nil)
}

func TestShapesInChangesComeBack(t *testing.T) {
	var all []impl.Change
	for what, s := range inOrder(goodShapes()) {
		t.Log(what)
		b := checkPutChanges(t, []impl.Change{put(9, s)})
		if len(b) != 8+len(impl.PutShape(s)) || int(binary.LittleEndian.Uint16(b[6:])) != len(impl.PutShape(s)) {
			t.Errorf("%s: its bytes are not told: %s", what, shortBytes(b))
		}
		all = append(all, put(mostId-len(all), s), drop(1+len(all)))
	}
	for list := range slices.Chunk(all, mostChanges) {
		checkPutChanges(t, list)
	}
	// As many as may be of the shape with the most bytes.
	greatest := put(mostId, frameAnd(impl.MaxRings-1, impl.MaxRing))
	if b := checkPutChanges(t, slices.Repeat([]impl.Change{greatest}, mostChanges)); len(b) != 1+mostChanges*(7+11769) {
		t.Error("the greatest changes:", len(b))
	}
}

func TestHowManyChanges(t *testing.T) {
	for _, one := range []impl.Change{drop(3), put(3, point(1, 2)), put(3, line(0, 0, 5, 5))} {
		for count := range mostChanges + 1 {
			b := checkPutChanges(t, slices.Repeat([]impl.Change{one}, count))
			if len(b) == 0 || int(b[0]) != count {
				t.Fatal("so many changes:", count, shortBytes(b))
			}
		}
		for _, count := range []int{mostChanges + 1, mostChanges + 2, 80, 255, 256, 257, 256 + mostChanges, 1000} {
			list := slices.Repeat([]impl.Change{one}, count)
			checkNoChangeBytes(t, "too many", list)
			checkPutChanges(t, list[:mostChanges])
		}
		// Bytes of more changes than may be, all of them right.
		whole := wantPutChanges([]impl.Change{one})[1:]
		for count := mostChanges + 1; count < 256; count++ {
			checkNoChanges(t, "too many", slices.Concat([]byte{byte(count)}, bytes.Repeat(whole, count)))
		}
	}
}

// One wrong change among right ones, at each place.
func TestWrongChangesHaveNoBytes(t *testing.T) {
	right := []impl.Change{drop(1), put(2, point(1, 2)), put(2, area(square(0, 0, 9))), drop(mostId), put(1, lines(row(1, 2, 3, 4)))}
	wrong := []impl.Change{{}, drop(0), drop(-1), drop(mostId + 1), drop(1<<32 + 1), put(0, point(1, 2)), put(mostId+1, point(1, 2)), put(1<<32+1, point(1, 2)), put(3, impl.Shape{}), put(3, line(1, 1, 1, 1)), put(3, area(hole(0, 0, 9))), {Kind: impl.ChangeDrop, Id: 3, Shape: point(1, 2)}, {Kind: impl.ChangeDrop, Id: 3, Shape: impl.Shape{Kind: 1}}, {Kind: impl.ChangeDrop, Id: 3, Shape: impl.Shape{Rings: [][]impl.Pt{nil}}}, {Kind: 3, Id: 3}, {Kind: 257, Id: 3, Shape: point(1, 2)}, {Kind: 258, Id: 3}}
	m := dots(4, 4, 1, 2, 3)
	for _, w := range wrong {
		checkChangeOk(t, "a wrong change", w, false)
		for at := range len(right) + 1 {
			list := slices.Insert(slices.Clone(right), at, w)
			checkNoChangeBytes(t, "a wrong change", list)
			checkNotApplied(t, "a wrong change", m, list)
		}
	}
	checkPutChanges(t, right)
	checkApplied(t, "right changes", m, right, []impl.Entry{entry(1, lines(row(1, 2, 3, 4))), entry(2, area(square(0, 0, 9))), entry(3, point(4, 4))})
}

// changesToBreak are changes of both kinds, of shapes of each kind.
func changesToBreak() [][]impl.Change {
	return [][]impl.Change{
		{drop(1)},
		{drop(mostId), drop(2)},
		{put(1, point(1, -2))},
		{put(258, point(0, 0)), drop(3)},
		{drop(3), put(258, line(0, 0, 5, 5))},
		{put(7, points(0, 0, -7, 9)), put(7, lines(row(0, 0, 1, 1))), drop(7)},
		{put(70000, area(row(0, 0, 1, 0, 0, 1))), put(mostId, point(most, -most))},
	}
}

func TestBytesOfChangesThatAreCut(t *testing.T) {
	list := changesToBreak()
	for _, s := range inOrder(goodShapes()) {
		list = append(list, []impl.Change{put(5, s)})
	}
	for _, changes := range list {
		b := impl.PutChanges(changes)
		step := 1 + len(b)/400
		for n := 0; n < len(b); n += step {
			// The rest lies behind, in the same memory.
			checkNoChanges(t, "cut", b[:n])
		}
		checkNoChanges(t, "cut by one", b[:len(b)-1])
		checkNoChanges(t, "the first one is cut off", b[1:])
	}
}

func TestBytesBehindChanges(t *testing.T) {
	for _, changes := range changesToBreak() {
		b := impl.PutChanges(changes)
		for v := range 256 {
			checkNoChanges(t, "one byte behind", append(slices.Clone(b), byte(v)))
		}
		for _, behind := range [][]byte{b, b[1:], make([]byte, 5), make([]byte, 70000), {2, 1, 0, 0, 0}} {
			checkNoChanges(t, "bytes behind", slices.Concat(b, behind))
		}
		// Told, what is behind is one of them.
		more := slices.Concat(b, []byte{2, 1, 0, 0, 0})
		more[0]++
		if !checkGetChanges(t, more) {
			t.Error("one more change:", shortBytes(more))
		}
		more[0]++
		checkNoChanges(t, "one more is told than there is", more)
		more[0] -= 3
		checkNoChanges(t, "fewer are told than there are", more)
	}
}

func TestKindsAndIdsInBytes(t *testing.T) {
	dot := inOrders(point(1, 2), 1).bytes
	for kind := range 256 {
		b := slices.Concat([]byte{1}, changeBytes(byte(kind), 3, nil))
		if ok := checkGetChanges(t, b); ok != (kind == impl.ChangeDrop) {
			t.Error("a change without a shape:", kind, ok)
		}
		b = slices.Concat([]byte{1}, changeBytes(1, 3, dot))
		b[1] = byte(kind)
		if ok := checkGetChanges(t, b); ok != (kind == impl.ChangePut) {
			t.Error("a change with a shape:", kind, ok)
		}
	}
	for _, id := range []uint32{0, 1, 2, 255, 256, 257, 65535, 65536, mostId - 1, mostId, mostId + 1, mostId + 2, 1 << 24, 1<<24 + 1, 1 << 31, 1<<31 + 1, 1 << 20, math.MaxUint32} {
		want := id >= 1 && id <= mostId
		for what, one := range map[string][]byte{"a drop": changeBytes(2, id, nil), "a put": changeBytes(1, id, dot)} {
			for _, b := range [][]byte{slices.Concat([]byte{1}, one), slices.Concat([]byte{2}, changeBytes(2, 9, nil), one), slices.Concat([]byte{2}, one, changeBytes(1, 9, dot))} {
				if ok := checkGetChanges(t, b); ok != want {
					t.Error(what, "of the Id", id, ok)
				}
			}
		}
	}
	// The highest byte first.
	checkNoChanges(t, "Id 3 the other way", []byte{1, 2, 0, 0, 0, 3})
}

// The bytes that a shape is told to have are not those that it has.
func TestLengthsOfShapesInBytes(t *testing.T) {
	for _, s := range shapesOfEachKind() {
		b := inOrders(s, 1).bytes
		for _, size := range []int{0, 1, 21, len(b) - 2, len(b) - 1, len(b) + 1, len(b) + 2, len(b) + 5, len(b) + 256, len(b) << 8, 30000, 30001, 65535} {
			if size == len(b) {
				continue
			}
			for _, behind := range [][]byte{nil, {0}, make([]byte, 70000), changeBytes(2, 9, nil), changeBytes(1, 9, b)} {
				one := changeBytes(1, 3, b)
				binary.LittleEndian.PutUint16(one[5:], uint16(size))
				for _, count := range []byte{1, 2} {
					checkNoChanges(t, fmt.Sprint(s, " told to have ", size), slices.Concat([]byte{count}, one, behind))
				}
			}
		}
		// With a byte more, or less, and told so.
		checkNoChanges(t, "a byte more", slices.Concat([]byte{1}, changeBytes(1, 3, append(slices.Clone(b), 0))))
		checkNoChanges(t, "a byte less", slices.Concat([]byte{1}, changeBytes(1, 3, b[:len(b)-1])))
		checkNoChanges(t, "twice", slices.Concat([]byte{1}, changeBytes(1, 3, slices.Concat(b, b))))
		checkNoChanges(t, "none", slices.Concat([]byte{1}, changeBytes(1, 3, nil)))
		// The length with its highest byte first.
		one := changeBytes(1, 3, b)
		one[5], one[6] = one[6], one[5]
		checkNoChanges(t, "the length the other way", slices.Concat([]byte{1}, one))
	}
}

func TestOtherFormsOfShapesInChanges(t *testing.T) {
	for _, s := range shapesOfEachKind() {
		for _, orders := range manyOrders() {
			b := inOrders(s, orders...).bytes
			if _, code, _ := impl.GetShape(b); code != impl.BytesGood {
				t.Fatal("the test itself is wrong:", s, orders)
			}
			same := bytes.Equal(b, inOrders(s, 1).bytes)
			for _, whole := range [][]byte{slices.Concat([]byte{1}, changeBytes(1, 3, b)), slices.Concat([]byte{2}, changeBytes(1, 3, b), changeBytes(2, 3, nil)), slices.Concat([]byte{2}, changeBytes(2, 3, nil), changeBytes(1, 3, b))} {
				if ok := checkGetChanges(t, whole); ok != same {
					t.Error(s, "in the orders", orders, ok)
				}
			}
		}
	}
	for _, text := range []string{"01 01000000 <-0> <0>", "01 01000000 <0> <-0>", "01 04000000 01000000 01 01000000 <-0> <5>", "01 02000000 02000000 <-0> <0> <5> <0>", "01 03000000 01000000 04000000 <0> <0> <1> <0> <0> <1> <-0> <0>", "01 03000000 01000000 04000000 <0> <0> <1> <-0> <0> <1> <0> <0>"} {
		b := bytesOf(t, text)
		if _, code, _ := impl.GetShape(b); code != impl.BytesGood {
			t.Fatal("the test itself is wrong:", text)
		}
		checkNoChanges(t, text, slices.Concat([]byte{1}, changeBytes(1, 3, b)))
	}
}

func TestWrongShapesInChanges(t *testing.T) {
	for what, s := range wrongShapes() {
		if len(s.Rings) == 0 {
			continue
		}
		b := inOrders(s, 1).bytes
		if _, code, _ := wantGet(b); code == impl.BytesGood {
			// Of a second row that may not be nothing is written.
			continue
		}
		checkNoChanges(t, what, slices.Concat([]byte{1}, changeBytes(1, 3, b)))
		checkNoChanges(t, what, slices.Concat([]byte{2}, changeBytes(1, 3, b), changeBytes(2, 3, nil)))
		checkNoChanges(t, what, slices.Concat([]byte{2}, changeBytes(2, 3, nil), changeBytes(1, 3, b)))
	}
	for _, text := range []string{"01", "02", "01 06000000", "01 02000000 00000000", "01 03000000 00000000", "01 04000000 00000000", "01 05000000 00000000", "01 01000000 <half> <1>", "01 01000000 <none> <1>", "01 02000000 01000000 <1> <2>"} {
		checkNoChanges(t, text, slices.Concat([]byte{1}, changeBytes(1, 3, bytesOf(t, text))))
	}
	// A drop has no shape.
	dot := inOrders(point(1, 2), 1).bytes
	checkNoChanges(t, "a drop with a shape", slices.Concat([]byte{1}, changeBytes(2, 3, dot)))
	checkNoChanges(t, "a drop with a shape and its length", slices.Concat([]byte{1}, changeBytes(2, 3, nil), []byte{21, 0}, dot))
	checkNoChanges(t, "a drop with the length 0", slices.Concat([]byte{1}, changeBytes(2, 3, nil), []byte{0, 0}))
}

// Each byte is once each other one.
func TestBytesOfChangesWithOneChanged(t *testing.T) {
	oks := map[bool]int{}
	for _, changes := range changesToBreak() {
		b := impl.PutChanges(changes)
		for place, was := range b {
			for v := range 256 {
				b[place] = byte(v)
				oks[checkGetChanges(t, b)]++
			}
			b[place] = was
		}
	}
	if oks[true] < 1000 || oks[false] < 10000 {
		t.Error("the test itself is wrong:", oks)
	}
}

func TestBytesOfChangesThatAreMoved(t *testing.T) {
	for _, changes := range changesToBreak() {
		moveBytes(impl.PutChanges(changes), 28, func(b []byte) { checkGetChanges(t, b) })
	}
}

// change is of one of few Ids, mostly right.
func (d *dice) change(shapes []impl.Shape) impl.Change {
	c := drop(1 + d.below(12))
	if d.below(3) > 0 {
		c = put(c.Id, shapes[d.below(len(shapes))])
	}
	switch d.below(60) {
	case 0:
		c.Kind = wrongChangeKinds()[d.below(len(wrongChangeKinds()))]
	case 1:
		c.Id = wrongIds()[d.below(len(wrongIds()))]
	case 2:
		c.Shape = d.shape()
	case 3:
		c.Id = rightIds()[d.below(len(rightIds()))]
	}
	return c
}

func (d *dice) changes(count int) []impl.Change {
	var out []impl.Change
	for range count {
		out = append(out, d.change(shapesOfEachKind()))
	}
	return out
}

// entries is a map, mostly a right one, whose Ids are many of those of the changes.
func (d *dice) entries() []impl.Entry {
	shapes := shapesOfEachKind()
	var out []impl.Entry
	for id := 1; id < 14; id++ {
		if d.below(3) > 0 {
			out = append(out, entry(id, shapes[d.below(len(shapes))]))
		}
	}
	if len(out) == 0 || d.below(12) > 0 {
		return out
	}
	at := d.below(len(out))
	switch d.below(3) {
	case 0:
		out[at].Id = d.below(15)
	case 1:
		out[at].Shape = d.shape()
	default:
		out = append(out, out[at])
	}
	return out
}

func TestChangesInBytesByChance(t *testing.T) {
	d := &dice{141}
	right, wrong := 0, 0
	for range rounds {
		list := d.changes(d.below(mostChanges / 2))
		b := checkPutChanges(t, list)
		if len(b) == 0 {
			wrong++
			continue
		}
		right++
		for range 1 + d.below(3) {
			at := d.below(len(b))
			switch d.below(4) {
			case 0:
				b[at] = byte(d.below(6))
			case 1:
				b = slices.Insert(b, at, byte(d.below(256)))
			case 2:
				b = slices.Delete(b, at, at+1)
			default:
				b[at] ^= 1 << d.below(8)
			}
			if len(b) == 0 {
				break
			}
			checkGetChanges(t, b)
		}
		checkGetChanges(t, d.bytes(d.below(40)))
	}
	if right < rounds/4 || wrong < rounds/20 {
		t.Error("the test itself is wrong:", right, wrong)
	}
}

func TestShapesOfChangesByChance(t *testing.T) {
	d := &dice{142}
	right := map[int]int{}
	for i := range rounds {
		s := d.turnAbout(i)
		if good(s) {
			right[s.Kind]++
		}
		checkChangeOk(t, "by chance", put(1+d.below(mostId), s), good(s))
		checkPutChanges(t, []impl.Change{put(1+d.below(mostId), s), drop(1 + d.below(mostId))})
		checkMapOk(t, "by chance", []impl.Entry{entry(1+d.below(mostId), s)}, good(s))
	}
	for _, kind := range allKinds() {
		if right[kind] < 50 {
			t.Error("the test itself is wrong:", right)
		}
	}
}

func TestFind(t *testing.T) {
	m := []impl.Entry{entry(1, point(1, 1)), entry(7, line(0, 0, 5, 5)), entry(mostId, area(square(0, 0, 9)))}
	for _, e := range m {
		if s, ok := checkFind(t, m, e.Id); !ok || !impl.SameShape(s, e.Shape) {
			t.Error("Find of", e.Id, s, ok)
		}
	}
	for _, id := range append(wrongIds(), 2, 6, 8, 999999) {
		if s, ok := checkFind(t, m, id); ok || s.Kind != 0 || len(s.Rings) != 0 {
			t.Error("Find of", id, s, ok)
		}
		if _, ok := checkFind(t, nil, id); ok {
			t.Error("Find in no map of", id)
		}
	}
	full := fullMap()
	for i := range full {
		full[i].Shape = point(i, -i)
	}
	for id := range 2*mostEntries + 3 {
		checkFind(t, full, id)
	}
	for what, s := range goodShapes() {
		if got, ok := checkFind(t, []impl.Entry{entry(2, point(1, 1)), entry(4, s)}, 4); !ok || !impl.SameShape(got, s) {
			t.Error("Find of", what)
		}
	}
}

// Find asks for nothing of the list but the Ids.
func TestFindInWhatIsNoMap(t *testing.T) {
	wrong := line(1, 1, 1, 1)
	m := []impl.Entry{entry(9, point(1, 1)), entry(3, point(2, 2)), entry(9, point(3, 3)), entry(3, point(4, 4)), entry(0, wrong), entry(-1, point(5, 5)), entry(math.MaxInt, wrong), entry(5, impl.Shape{}), entry(0, point(6, 6))}
	for id, want := range map[int]impl.Shape{9: point(1, 1), 3: point(2, 2), 0: wrong, -1: point(5, 5), math.MaxInt: wrong, 5: {}} {
		if s, ok := checkFind(t, m, id); !ok || !impl.SameShape(s, want) {
			t.Error("Find of", id, s, ok)
		}
	}
	for what, m := range wrongMaps() {
		t.Log(what)
		for _, e := range m {
			checkFind(t, m, e.Id)
		}
		checkFind(t, m, 77777)
	}
	if s, ok := checkFind(t, dots(8, 8, idsFrom(1, 3000, 1)...), 3000); !ok || !impl.SameShape(s, point(8, 8)) {
		t.Error("Find in too many:", s, ok)
	}
}

func TestChangesAppliedByExample(t *testing.T) {
	one, other := point(1, 1), line(0, 0, 5, 5)
	m := []impl.Entry{entry(3, one), entry(5, one)}
	for what, c := range map[string]struct {
		list []impl.Change
		want []impl.Entry
	}{
		"a put ahead":             {[]impl.Change{put(1, other)}, []impl.Entry{entry(1, other), entry(3, one), entry(5, one)}},
		"a put between":           {[]impl.Change{put(4, other)}, []impl.Entry{entry(3, one), entry(4, other), entry(5, one)}},
		"a put behind":            {[]impl.Change{put(mostId, other)}, []impl.Entry{entry(3, one), entry(5, one), entry(mostId, other)}},
		"a put in its place":      {[]impl.Change{put(3, other)}, []impl.Entry{entry(3, other), entry(5, one)}},
		"the same again":          {[]impl.Change{put(3, one), put(3, one)}, m},
		"the last put counts":     {[]impl.Change{put(4, one), put(4, point(9, 9)), put(4, other)}, []impl.Entry{entry(3, one), entry(4, other), entry(5, one)}},
		"a drop":                  {[]impl.Change{drop(3)}, []impl.Entry{entry(5, one)}},
		"both dropped":            {[]impl.Change{drop(5), drop(3)}, nil},
		"dropped and put":         {[]impl.Change{drop(3), put(3, other)}, []impl.Entry{entry(3, other), entry(5, one)}},
		"put and dropped":         {[]impl.Change{put(3, other), drop(3)}, []impl.Entry{entry(5, one)}},
		"put, dropped and put":    {[]impl.Change{put(9, other), drop(9), put(9, one)}, []impl.Entry{entry(3, one), entry(5, one), entry(9, one)}},
		"in no order of Ids":      {[]impl.Change{put(9, one), put(1, other), put(8, one), put(2, other)}, []impl.Entry{entry(1, other), entry(2, other), entry(3, one), entry(5, one), entry(8, one), entry(9, one)}},
		"one dropped, one put":    {[]impl.Change{drop(5), put(4, other)}, []impl.Entry{entry(3, one), entry(4, other)}},
		"all dropped, others put": {[]impl.Change{put(2, one), drop(3), put(4, one), drop(5)}, []impl.Entry{entry(2, one), entry(4, one)}},
	} {
		checkApplied(t, what, m, c.list, c.want)
	}
	for what, s := range goodShapes() {
		checkApplied(t, what, m, []impl.Change{put(5, s), put(4, s)}, []impl.Entry{entry(3, one), entry(4, s), entry(5, s)})
	}
}

func TestDropsOfWhatIsNotThere(t *testing.T) {
	m := []impl.Entry{entry(3, point(1, 1)), entry(5, point(2, 2))}
	behind := append(slices.Clone(m), entry(7, point(3, 3)))
	seven := put(7, point(3, 3))
	for _, id := range []int{1, 2, 4, 6, 8, mostId} {
		gone := drop(id)
		checkApplied(t, "alone", m, []impl.Change{gone}, m)
		checkApplied(t, "doubled", m, []impl.Change{gone, gone}, m)
		checkApplied(t, "often", m, slices.Repeat([]impl.Change{gone}, 1000), m)
		checkApplied(t, "behind a put", m, []impl.Change{seven, gone}, behind)
		checkApplied(t, "ahead of one", m, []impl.Change{gone, seven}, behind)
		checkApplied(t, "ahead of one and behind it", m, []impl.Change{gone, seven, gone}, behind)
		checkApplied(t, "ahead of a put of it", m, []impl.Change{gone, put(id, point(9, 9)), gone, gone}, m)
		checkApplied(t, "of no map", nil, []impl.Change{gone}, nil)
		checkPutChanges(t, []impl.Change{gone, seven, gone})
	}
	checkApplied(t, "of what was there", m, []impl.Change{drop(3), drop(3), drop(3)}, m[1:])
	checkApplied(t, "of what was put", m, []impl.Change{seven, drop(7), drop(7)}, m)
	checkApplied(t, "of what is put behind", m, []impl.Change{drop(7), drop(7), seven}, behind)
	checkApplied(t, "in a full map", fullMap(), []impl.Change{drop(2), drop(4), drop(mostId)}, fullMap())
	// A drop that is not ChangeOk does not do nothing: all is refused.
	for _, id := range wrongIds() {
		checkNotApplied(t, "of a wrong Id", m, []impl.Change{drop(id)})
		checkNotApplied(t, "of a wrong Id, behind others", m, []impl.Change{drop(3), seven, drop(id)})
	}
	for _, s := range []impl.Shape{point(1, 1), {Kind: impl.ShapePoint}, {Rings: [][]impl.Pt{nil}}, line(1, 1, 1, 1)} {
		checkNotApplied(t, "with a shape", m, []impl.Change{{Kind: impl.ChangeDrop, Id: 4, Shape: s}})
		checkNotApplied(t, "with a shape, of what is there", m, []impl.Change{{Kind: impl.ChangeDrop, Id: 3, Shape: s}})
	}
}

func TestMapsAtTheLimit(t *testing.T) {
	full := fullMap()
	one := point(1, 2)
	almost := full[:mostEntries-1]
	last := full[mostEntries-1]
	checkApplied(t, "to 500 Entries", almost, []impl.Change{put(last.Id, one)}, full)
	checkApplied(t, "in the place of one of 500", full, []impl.Change{put(1, one), put(last.Id, one), put(501, one)}, full)
	checkApplied(t, "500 dropped to none", full, wantBetween(full, nil), nil)
	checkApplied(t, "none to 500", nil, wantBetween(nil, full), full)
	checkApplied(t, "a drop ahead makes room", full, []impl.Change{drop(last.Id), put(2, one), drop(2), put(last.Id, one)}, full)
	checkApplied(t, "up and down", almost, []impl.Change{put(2, one), drop(2), put(4, one), drop(4), put(6, one), drop(6), put(last.Id, one)}, full)
	checkNotApplied(t, "501", full, []impl.Change{put(2, one)})
	checkNotApplied(t, "501 by two", almost, []impl.Change{put(2, one), put(4, one)})
	checkNotApplied(t, "501, of which one is dropped again", full, []impl.Change{put(2, one), drop(2)})
	checkNotApplied(t, "501, of which another is dropped", full, []impl.Change{put(2, one), drop(1)})
	checkNotApplied(t, "501 among many", almost, []impl.Change{put(2, one), drop(2), put(2, one), put(4, one), drop(2), drop(4), drop(6)})
	checkNotApplied(t, "a drop of what is not there makes no room", full, []impl.Change{drop(2), put(2, one), drop(2)})
	checkNotApplied(t, "a put ahead of a drop", full, []impl.Change{put(2, one), drop(1), drop(3), drop(5)})
	var many []impl.Change
	for id := 1; id <= mostEntries+1; id++ {
		many = append(many, put(id, one))
	}
	checkApplied(t, "500 from none", nil, many[:mostEntries], dots(1, 2, idsFrom(1, mostEntries, 1)...))
	checkNotApplied(t, "501 from none", nil, many)
}

// How many changes there are is no matter: MaxChanges is the limit of their bytes.
func TestManyChangesApplied(t *testing.T) {
	for _, count := range []int{mostChanges, mostChanges + 1, 255, 256, 2000} {
		var list []impl.Change
		for i := range count {
			list = append(list, put(1+i%7, point(i, i)), drop(1+(i+3)%7))
		}
		checkApply(t, dots(1, 2, 2, 9), list)
		if _, ok := impl.ApplyChanges(dots(1, 2, 2, 9), list); !ok {
			t.Error("refused:", count)
		}
	}
}

func TestBetweenByExample(t *testing.T) {
	one, other := point(1, 1), line(0, 0, 5, 5)
	a := []impl.Entry{entry(3, one), entry(5, one), entry(9, other)}
	for what, c := range map[string]struct {
		b    []impl.Entry
		want []impl.Change
	}{
		"the same":            {[]impl.Entry{entry(3, one), entry(5, one), entry(9, other)}, nil},
		"none":                {nil, []impl.Change{drop(3), drop(5), drop(9)}},
		"the first one is no": {a[1:], []impl.Change{drop(3)}},
		"the last one is no":  {a[:2], []impl.Change{drop(9)}},
		"one ahead":           {append([]impl.Entry{entry(1, one)}, a...), []impl.Change{put(1, one)}},
		"one behind":          {append(slices.Clone(a), entry(mostId, one)), []impl.Change{put(mostId, one)}},
		"one otherwise":       {[]impl.Entry{entry(3, one), entry(5, point(1, 2)), entry(9, other)}, []impl.Change{put(5, point(1, 2))}},
		"shapes change Ids":   {[]impl.Entry{entry(3, other), entry(5, one), entry(9, one)}, []impl.Change{put(3, other), put(9, one)}},
		"all otherwise":       {[]impl.Entry{entry(3, other), entry(5, other), entry(9, one)}, []impl.Change{put(3, other), put(5, other), put(9, one)}},
		"other Ids":           {[]impl.Entry{entry(2, one), entry(6, one), entry(8, other)}, []impl.Change{put(2, one), drop(3), drop(5), put(6, one), put(8, other), drop(9)}},
		"of each kind":        {[]impl.Entry{entry(1, one), entry(5, other), entry(9, other), entry(10, one)}, []impl.Change{put(1, one), drop(3), put(5, other), put(10, one)}},
	} {
		if got := checkBetween(t, a, c.b); !sameChanges(got, c.want) {
			t.Errorf("%s: %v, not %v", what, got, c.want)
		}
		checkThereAndBackBetween(t, what, a, c.b)
	}
	if list := checkBetween(t, nil, nil); len(list) != 0 {
		t.Error("between no maps:", list)
	}
}

// Shapes that are almost the same are put anew.
func TestBetweenShapesThatAlmostAreTheSame(t *testing.T) {
	list := shapesOfEachKind()
	for _, s := range inOrder(goodShapes()) {
		list = append(list, s)
	}
	for i, s := range list {
		for j, other := range list {
			a, b := []impl.Entry{entry(4, s)}, []impl.Entry{entry(4, other)}
			want := []impl.Change{put(4, other)}
			if i == j || impl.SameShape(s, other) {
				want = nil
			}
			if got := impl.Between(a, cloneEntries(b)); !sameChanges(got, want) {
				t.Errorf("between %v and %v: %v", s, other, got)
			}
		}
	}
}

func cloneEntries(m []impl.Entry) []impl.Entry {
	var out []impl.Entry
	for _, e := range m {
		out = append(out, entry(e.Id, cloned(e.Shape)))
	}
	return out
}

// Maps of many kinds, each made of each other one.
func TestBetweenMapsOfManyKinds(t *testing.T) {
	var mixed, good []impl.Entry
	for i, s := range shapesOfEachKind() {
		mixed = append(mixed, entry(3+2*i, s))
	}
	for what, s := range inOrder(goodShapes()) {
		t.Log(what)
		good = append(good, entry(1+3*len(good), s))
	}
	list := map[string][]impl.Entry{
		"none": nil, "one": dots(1, 2, 7), "the last Id": dots(1, 2, mostId), "few": dots(1, 2, 1, 5, 9), "few, otherwise": dots(2, 1, 1, 5, 9), "few others": dots(1, 2, 2, 6, 10),
		"mixed": mixed, "mixed, less": mixed[3:9], "good shapes": good, "full": fullMap(), "full, otherwise": dots(2, 1, idsFrom(1, mostEntries, 2)...), "half": fullMap()[100:350], "almost full": fullMap()[:mostEntries-1],
	}
	for what, a := range list {
		for and, b := range list {
			changes := checkBetween(t, a, b)
			got, ok := checkApply(t, a, changes)
			if most := mostAtOnce(a, changes); ok != (most <= mostEntries) || ok && !sameEntries(got, b) {
				t.Errorf("from %q to %q: %s, %v, though there are %d at once", what, and, shortList(got), ok, most)
			}
			if len(a) < 100 && len(b) < 100 && !ok {
				t.Errorf("from %q to %q: refused", what, and)
			}
		}
		if changes := checkBetween(t, a, cloneEntries(a)); len(changes) != 0 {
			t.Errorf("between %q and itself: %s", what, shortList(changes))
		}
	}
	checkThereAndBackBetween(t, "none and full", nil, fullMap())
	checkThereAndBackBetween(t, "full, and otherwise", fullMap(), list["full, otherwise"])
	checkThereAndBackBetween(t, "full, and half", fullMap(), list["half"])
}

// mostAtOnce is how many Ids a map has at any time while it is changed.
func mostAtOnce(m []impl.Entry, list []impl.Change) int {
	ids := map[int]bool{}
	for _, e := range m {
		ids[e.Id] = true
	}
	out := len(ids)
	for _, c := range list {
		if c.Kind == impl.ChangePut {
			ids[c.Id] = true
		} else {
			delete(ids, c.Id)
		}
		out = max(out, len(ids))
	}
	return out
}

// The changes come by Id: where puts come ahead of the drops that make room for them, there would be too many at a time, and they are refused.
func TestBetweenFullMaps(t *testing.T) {
	low, high := dots(1, 2, idsFrom(1, mostEntries, 1)...), dots(1, 2, idsFrom(1000, mostEntries, 1)...)
	down, up := checkBetween(t, high, low), checkBetween(t, low, high)
	if len(down) != 2*mostEntries || len(up) != 2*mostEntries {
		t.Fatal("between full maps:", len(down), len(up))
	}
	checkNotApplied(t, "puts first", high, down)
	checkApplied(t, "drops first", low, up, high)
	odd, even := fullMap(), dots(1, 2, idsFrom(2, mostEntries, 2)...)
	checkApplied(t, "each is put where one has gone", odd, checkBetween(t, odd, even), even)
	checkNotApplied(t, "each is put where one will go", even, checkBetween(t, even, odd))
	checkApplied(t, "with room for one", even[:mostEntries-1], checkBetween(t, even[:mostEntries-1], odd), odd)
	// With room for all of both, whatever their order.
	checkThereAndBackBetween(t, "half full ones", low[:250], high[:250])
}

func TestMapsByChance(t *testing.T) {
	d := &dice{143}
	oks, made := map[bool]int{}, map[bool]int{}
	for range rounds {
		m, other := d.entries(), d.entries()
		checkMapOk(t, "by chance", m, wantMapOk(m))
		_, ok := checkApply(t, m, d.changes(d.below(12)))
		oks[ok]++
		for id := range 16 {
			checkFind(t, m, id)
		}
		changes := checkBetween(t, m, other)
		right := wantMapOk(m) && wantMapOk(other)
		made[right]++
		if !right && len(changes) > 0 {
			t.Fatal("changes between what is no map:", m, other, changes)
		}
		if got, ok := checkApply(t, m, changes); right && (!ok || !sameEntries(got, other)) {
			t.Fatal("not the other map:", m, other, got, ok)
		}
		checkPutChanges(t, changes)
	}
	for _, ok := range []bool{false, true} {
		if oks[ok] < rounds/20 || made[ok] < rounds/20 {
			t.Error("the test itself is wrong:", oks, made)
		}
	}
}

// Changes one behind the other, as bytes and back, come to what all of them at once come to.
func TestChangesInTheLongRun(t *testing.T) {
	d := &dice{144}
	shapes := shapesOfEachKind()
	var m []impl.Entry
	var all []impl.Change
	for range 300 {
		var list []impl.Change
		for range d.below(mostChanges + 1) {
			id := 1 + d.below(60)
			if d.below(3) == 0 {
				list = append(list, drop(id))
			} else {
				list = append(list, put(id, shapes[d.below(len(shapes))]))
			}
		}
		all = append(all, list...)
		back, ok := impl.GetChanges(checkPutChanges(t, list))
		if !ok {
			t.Fatal("not back:", list)
		}
		before := m
		m, ok = checkApply(t, m, back)
		if !ok {
			t.Fatal("not applied:", list)
		}
		checkThereAndBackBetween(t, "one step", before, m)
	}
	checkApplied(t, "all at once", nil, all, m)
	if len(m) < 20 {
		t.Error("the test itself is wrong:", len(m))
	}
}

// roomyList is the same list in one memory with room behind it, and behind all lists in it, with something in that; it tells what all of that memory holds, and how to overwrite it.
func roomyList[T any](list []T, shapeIn func(*T) *impl.Shape, behind T) (given []T, tell func() string, spoil func()) {
	memory := append(slices.Clone(list), behind, behind)
	var points [][]impl.Pt
	var rows [][][]impl.Pt
	for i := range memory {
		s := shapeIn(&memory[i])
		roomy, pts, all := roomyShape(*s, pt(most+1, 5))
		*s = roomy
		points, rows = append(points, pts), append(rows, all)
	}
	tell = func() string { return fmt.Sprint(memory, points, rows) }
	spoil = func() {
		for i := range memory {
			overwriteRow(points[i])
			overwrite(impl.Shape{Rings: rows[i]})
		}
		clear(memory)
	}
	return memory[:len(list)], tell, spoil
}

func shapeOfEntry(e *impl.Entry) *impl.Shape { return &e.Shape }

func shapeOfChange(c *impl.Change) *impl.Shape { return &c.Shape }

// shapesIn are the shapes of an answer, whose rows are those of the answer.
func shapesIn[T any](list []T, shapeIn func(*T) *impl.Shape) []impl.Shape {
	var out []impl.Shape
	for i := range list {
		out = append(out, *shapeIn(&list[i]))
	}
	return out
}

// changeAnswer is what a call told: the list itself as a text, its shapes, and how to overwrite the list.
type changeAnswer struct {
	tell   func() string
	shapes []impl.Shape
	clear  func()
}

func answerOf[T any](list []T, shapeIn func(*T) *impl.Shape, ok bool) changeAnswer {
	return changeAnswer{
		tell:   func() string { return fmt.Sprint(list, ok) },
		shapes: shapesIn(list, shapeIn),
		clear:  func() { clear(list[:cap(list)]) },
	}
}

// changeCalls are all that answer shapes, of two maps and changes.
func changeCalls() map[string]func(a, b []impl.Entry, list []impl.Change) changeAnswer {
	return map[string]func(a, b []impl.Entry, list []impl.Change) changeAnswer{
		"ApplyChanges": func(a, _ []impl.Entry, list []impl.Change) changeAnswer {
			m, ok := impl.ApplyChanges(a, list)
			return answerOf(m, shapeOfEntry, ok)
		},
		"Between": func(a, b []impl.Entry, _ []impl.Change) changeAnswer {
			return answerOf(impl.Between(a, b), shapeOfChange, true)
		},
		"Find": func(a, _ []impl.Entry, list []impl.Change) changeAnswer {
			var found []impl.Entry
			for id := range 16 {
				s, ok := impl.Find(a, id)
				if ok {
					found = append(found, entry(id, s))
				}
			}
			return answerOf(found, shapeOfEntry, true)
		},
		"GetChanges": func(_, _ []impl.Entry, list []impl.Change) changeAnswer {
			got, ok := impl.GetChanges(impl.PutChanges(list))
			return answerOf(got, shapeOfChange, ok)
		},
		"the others": func(a, b []impl.Entry, list []impl.Change) changeAnswer {
			text := fmt.Sprint(impl.PutChanges(list), impl.MapOk(a), impl.MapOk(b))
			for _, c := range list {
				text += fmt.Sprint(impl.ChangeOk(c))
			}
			return changeAnswer{tell: func() string { return text }, clear: func() {}}
		},
	}
}

type changeCase struct {
	a, b []impl.Entry
	list []impl.Change
}

// casesForMemory are right ones, refused ones, and some whose shapes lie in one memory.
func casesForMemory() []changeCase {
	d := &dice{145}
	var out []changeCase
	for i := range 40 {
		c := changeCase{d.entries(), d.entries(), d.changes(d.below(8))}
		if i%8 == 0 {
			c.list = slices.Repeat(c.list[:min(1, len(c.list))], mostChanges+1)
		}
		out = append(out, c)
	}
	for _, what := range slices.Sorted(maps.Keys(wrongMaps())) {
		if m := wrongMaps()[what]; len(m) < 10 && d.below(4) == 0 {
			out = append(out, changeCase{m, d.entries(), d.changes(3)}, changeCase{d.entries(), m, nil})
		}
	}
	one, holed := point(3, 3), area(square(0, 0, 9), row(1, 1, 1, 2, 2, 1))
	twice := lines(repeated(1, row(0, 0, 1, 1))...)
	twice.Rings = append(twice.Rings, twice.Rings[0])
	shared := []impl.Entry{entry(1, one), entry(2, one), entry(4, holed), entry(5, holed), entry(7, twice)}
	puts := []impl.Change{put(2, one), put(3, one), put(4, twice), put(6, holed), put(8, holed)}
	wrong := append(slices.Clone(shared), entry(1, one), entry(0, impl.Shape{Kind: 9, Rings: [][]impl.Pt{one.Rings[0], one.Rings[0], nil, {}}}))
	full := fullMap()
	return append(out, changeCase{full, full[1:], []impl.Change{put(2, one)}}, changeCase{full[1:], full, []impl.Change{put(1, one), put(7, holed)}}, changeCase{shared, nil, puts}, changeCase{nil, shared, puts}, changeCase{wrong, shared, puts}, changeCase{shared, wrong, append(puts, drop(0))}, changeCase{full[:20], full[7:30], puts})
}

// The arguments, and what lies behind their lists, stay as they are, and what is behind is not looked at.
func TestChangeCallsLeaveTheirArguments(t *testing.T) {
	for what, call := range changeCalls() {
		for _, c := range casesForMemory() {
			want := call(c.a, c.b, c.list).tell()
			a, tellA, spoilA := roomyList(c.a, shapeOfEntry, entry(1, point(1, 1)))
			b, tellB, spoilB := roomyList(c.b, shapeOfEntry, entry(mostId, point(2, 2)))
			list, tellList, spoilList := roomyList(c.list, shapeOfChange, put(9, point(3, 3)))
			before := tellA() + tellB() + tellList()
			got := call(a, b, list)
			if got.tell() != want {
				t.Fatalf("%s looks at what lies behind: %s, not %s", what, short(got.tell()), short(want))
			}
			if tellA()+tellB()+tellList() != before {
				t.Fatalf("%s changes an argument: %v", what, c)
			}
			for _, s := range call(a, b, list).shapes {
				overwrite(s)
			}
			if tellA()+tellB()+tellList() != before {
				t.Fatalf("%s answers memory of an argument: %v", what, c)
			}
			spoilA()
			spoilB()
			spoilList()
			if got.tell() != want {
				t.Fatalf("%s hangs on an argument: %v", what, c)
			}
		}
	}
}

func TestChangeAnswersAreTheirOwn(t *testing.T) {
	for what, call := range changeCalls() {
		for _, c := range casesForMemory() {
			kept, other := call(c.a, c.b, c.list), call(c.a, c.b, c.list)
			want := kept.tell()
			for _, s := range other.shapes {
				overwrite(s)
			}
			other.clear()
			if kept.tell() != want || call(c.a, c.b, c.list).tell() != want {
				t.Fatalf("%s shares memory with an earlier answer: %v", what, c)
			}
			checkShapesApart(t, what, kept.shapes)
		}
	}
}

// checkShapesApart: no two lists of these shapes share memory, nor the room behind them.
func checkShapesApart(t *testing.T, what string, list []impl.Shape) {
	t.Helper()
	var rows [][]impl.Pt
	var shapes []impl.Shape
	for _, s := range list {
		rows = append(rows, s.Rings...)
		shapes = append(shapes, cloned(s))
	}
	want := cloned(impl.Shape{Rings: rows}).Rings
	for i, row := range rows {
		overwriteRow(row)
		for j := range rows {
			if j != i && !slices.Equal(rows[j], want[j]) {
				t.Fatal(what, "has two rows in one memory:", want[i], want[j])
			}
		}
		copy(row, want[i])
	}
	for i, s := range list {
		held := slices.Clone(s.Rings)
		all := s.Rings[:cap(s.Rings)]
		for k := range all {
			all[k] = row(-77, 77)
		}
		for j, other := range list {
			if j != i && !impl.SameShape(other, shapes[j]) {
				t.Fatal(what, "has two lists of rows in one memory:", shapes[i], shapes[j])
			}
		}
		copy(s.Rings, held)
	}
}

func TestBytesOfChangesAreTheirOwn(t *testing.T) {
	for _, changes := range append(changesToBreak(), nil, []impl.Change{drop(0)}) {
		given, tell, spoil := roomyList(changes, shapeOfChange, drop(9))
		before := tell()
		kept, other := impl.PutChanges(given), impl.PutChanges(given)
		want := slices.Clone(kept)
		overwriteBytes(other)
		if !bytes.Equal(kept, want) || tell() != before || !bytes.Equal(impl.PutChanges(given), want) {
			t.Fatal("bytes that share memory:", changes)
		}
		spoil()
		if !bytes.Equal(kept, want) {
			t.Fatal("bytes that hang on their changes:", changes)
		}
	}
}

// GetChanges changes no byte, nor what is behind them, and looks at nothing there.
func TestGetChangesLeavesItsBytes(t *testing.T) {
	for _, changes := range changesToBreak() {
		b := impl.PutChanges(changes)
		for _, given := range [][]byte{b, b[:len(b)-1], b[:len(b)/2], b[:1], append(slices.Clone(b), 1), {0}, nil} {
			for _, behind := range [][]byte{{0, 0, 0}, {2, 1, 0, 0, 0}, b[len(b)-1:], b[1:]} {
				memory := slices.Concat(given, behind)
				before := slices.Clone(memory)
				got, ok := impl.GetChanges(memory[:len(given)])
				want, wantOk := wantGetChanges(given)
				if ok != wantOk || !sameChanges(got, want) {
					t.Fatal("what lies behind is looked at:", shortBytes(given))
				}
				for _, c := range got {
					overwrite(c.Shape)
				}
				if !bytes.Equal(memory, before) {
					t.Fatal("bytes were changed:", shortBytes(before))
				}
				got, _ = impl.GetChanges(memory[:len(given)])
				overwriteBytes(memory)
				if !sameChanges(got, want) {
					t.Fatal("changes that hang on their bytes:", shortBytes(before))
				}
			}
		}
	}
}

// What was refused, or asked for ahead, leaves nothing behind; nor does it hang on the order in which anything is gone through.
func TestChangeCallsKeepNothing(t *testing.T) {
	list := casesForMemory()
	calls := changeCalls()
	tell := func(c changeCase) string {
		text := ""
		for _, what := range slices.Sorted(maps.Keys(calls)) {
			text += calls[what](c.a, c.b, c.list).tell()
		}
		return text
	}
	var first []string
	for _, c := range list {
		first = append(first, tell(c))
	}
	for range 5 {
		for i, c := range slices.Backward(list) {
			if tell(c) != first[i] {
				t.Error("another answer later:", i, c)
			}
		}
	}
}
