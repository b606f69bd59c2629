package tests

import (
	"fmt"
	"math"
	"slices"
	"testing"

	"loop.example/g00108/impl"
)

// past is what a store was: the changes of each record that counts, and the map behind the first n of them.
type past struct {
	rows [][]impl.Change
	maps [][]impl.Entry
}

// pastOf is that of these rows, all of which count.
func pastOf(rows ...[]impl.Change) past {
	p := past{rows: rows, maps: [][]impl.Entry{nil}}
	for i, row := range rows {
		m, ok := wantApply(p.maps[i], row)
		if !ok {
			panic("a row that does not count")
		}
		p.maps = append(p.maps, m)
	}
	return p
}

// wantPast reads it off the disk, record by record; false when there is no store.
func wantPast(d impl.Disk) (past, bool) {
	if _, code := wantStore(d); code != storeGood {
		return past{}, false
	}
	force, _ := wantForce(d)
	from, to := areaOf(d, force.area)
	_, records, _ := wantOpen(d, from, to)
	var rows [][]impl.Change
	for _, one := range records {
		list, ok := wantGetChanges(one)
		if !ok {
			break
		}
		rows = append(rows, list)
	}
	return pastOf(rows...), true
}

func (p past) now() []impl.Entry { return p.maps[len(p.maps)-1] }

// has tells whether there is such a version; the zero past has none.
func (p past) has(n int) bool { return n >= 0 && n < len(p.maps) }

func (p past) touched(id int) []int {
	var out []int
	for i, row := range p.rows {
		for _, c := range row {
			if c.Id == id && !slices.Contains(out, i+1) {
				out = append(out, i+1)
			}
		}
	}
	return out
}

// ids are those that the changes have, and some that none may have, or few. Of very many each third is enough, as each is asked of the whole log.
func (p past) ids() []int {
	var out []int
	for _, row := range p.rows {
		for _, c := range row {
			out = append(out, c.Id, c.Id+1)
		}
	}
	slices.Sort(out)
	out = slices.Compact(out)
	for len(out) > 60 {
		out = everyThird(out)
	}
	return append(out, append(wrongIds(), 2, 7, 500, mostId-1, mostId)...)
}

func everyThird(list []int) []int {
	var out []int
	for i := 0; i < len(list); i += 3 {
		out = append(out, list[i])
	}
	return out
}

// timesAround are all numbers of versions, and some beyond on both sides.
func timesAround(versions int) []int {
	out := []int{math.MinInt, math.MinInt + 1, -1 << 32, -1000, -3, -2, -1, 1000, 1 << 31, 1 << 32, 1<<32 + 1, math.MaxInt - 1, math.MaxInt}
	for n := range versions + 4 {
		out = append(out, n)
	}
	return out
}

func checkVersions(t *testing.T, what string, d impl.Disk, want int) {
	t.Helper()
	if n := impl.Versions(d); n != want {
		t.Fatalf("%s: Versions of %s: %d, not %d", what, shortDisk(d), n, want)
	}
}

// checkVersion: what AsOf and Undo tell of this number.
func checkVersion(t *testing.T, what string, d impl.Disk, n int, want past) {
	t.Helper()
	var m []impl.Entry
	var undo []impl.Change
	if want.has(n) {
		m, undo = want.maps[n], wantBetween(want.now(), want.maps[n])
	}
	if got, ok := impl.AsOf(d, n); ok != want.has(n) || !sameEntries(got, m) {
		t.Fatalf("%s: AsOf %d: %s, %v, not %s", what, n, shortList(got), ok, shortList(m))
	}
	if got, ok := impl.Undo(d, n); ok != want.has(n) || !sameChanges(got, undo) {
		t.Fatalf("%s: Undo to %d: %s, %v, not %s", what, n, shortList(got), ok, shortList(undo))
	}
}

func checkTouched(t *testing.T, what string, d impl.Disk, id int, want []int) {
	t.Helper()
	if got := impl.Touched(d, id); !slices.Equal(got, want) {
		t.Fatalf("%s: Touched of %d: %v, not %v", what, id, got, want)
	}
}

// checkPast: all calls tell of the disk just this past.
func checkPast(t *testing.T, what string, d impl.Disk, want past) {
	t.Helper()
	checkVersions(t, what, d, len(want.rows))
	for _, n := range timesAround(len(want.rows)) {
		checkVersion(t, what, d, n, want)
	}
	for _, id := range want.ids() {
		checkTouched(t, what, d, id, want.touched(id))
	}
	checkWhatFollowsOfPasts(t, what, d, want.ids())
}

// checkNoPast: all calls tell that there is no store.
func checkNoPast(t *testing.T, what string, d impl.Disk) {
	t.Helper()
	checkVersions(t, what, d, -1)
	for _, n := range timesAround(6) {
		checkVersion(t, what, d, n, past{})
	}
	for _, id := range []int{-1, 0, 1, 2, 70, 71, mostId, mostId + 1, math.MinInt, math.MaxInt} {
		checkTouched(t, what, d, id, nil)
	}
}

// checkHistory holds the calls against what the test reads off the disk.
func checkHistory(t *testing.T, what string, d impl.Disk) (past, bool) {
	t.Helper()
	want, ok := wantPast(d)
	if ok {
		checkPast(t, what, d, want)
	} else {
		checkNoPast(t, what, d)
	}
	return want, ok
}

// checkWhatFollowsOfPasts holds the calls against one another, and against chapters 13 and 14.
func checkWhatFollowsOfPasts(t *testing.T, what string, d impl.Disk, ids []int) {
	t.Helper()
	s, code := impl.Open(d)
	versions := impl.Versions(d)
	if last, ok := impl.AsOf(d, versions); code != storeGood || !ok || !sameEntries(last, s.Map) {
		t.Fatalf("%s: the last version is %s, the map %s", what, shortList(last), shortList(s.Map))
	}
	ahead, ok := impl.AsOf(d, 0)
	if !ok || len(ahead) != 0 {
		t.Fatalf("%s: AsOf 0: %s, %v", what, shortList(ahead), ok)
	}
	for n := range versions + 1 {
		m, ok := impl.AsOf(d, n)
		undo, okUndo := impl.Undo(d, n)
		if back, applied := impl.ApplyChanges(s.Map, undo); !ok || !okUndo || !applied || !sameEntries(back, m) || !impl.MapOk(m) {
			t.Fatalf("%s: undone to %d it is %s, %v, not %s", what, n, shortList(back), applied, shortList(m))
		}
		for _, c := range impl.Between(ahead, m) {
			if !slices.Contains(impl.Touched(d, c.Id), n) {
				t.Fatalf("%s: Id %d is otherwise since %d, and not touched", what, c.Id, n)
			}
		}
		ahead = m
	}
	for _, id := range ids {
		numbers := impl.Touched(d, id)
		for i, n := range numbers {
			if n < 1 || n > versions || i > 0 && numbers[i-1] >= n {
				t.Fatalf("%s: Touched of %d: %v, of %d", what, id, numbers, versions)
			}
		}
	}
}

// disksOfRows have these rows as their records: in each area, with epochs that are the same and that rise.
func disksOfRows(h int, rows ...[]impl.Change) []impl.Disk {
	var records [][]byte
	for _, row := range rows {
		records = append(records, wantPutChanges(row))
	}
	var out []impl.Disk
	for area := range 2 {
		for by := range 2 {
			d := impl.DiskNew(2*h + 2)
			copy(d.Bytes[by*sectorSize:], headSector(byte(area), 3))
			out = append(out, laidLog(d, 2+h*area, 5, by, records...))
		}
	}
	return out
}

// checkRows: such disks have just this past.
func checkRows(t *testing.T, what string, h int, rows ...[]impl.Change) {
	t.Helper()
	for _, d := range disksOfRows(h, rows...) {
		checkPast(t, what, d, pastOf(rows...))
	}
}

func TestHistoryByExample(t *testing.T) {
	t.Parallel()
	s := newStore(t, 9)
	checkPast(t, "new", s.Disk, past{maps: [][]impl.Entry{nil}})
	bent := line(0, 0, 5, 5, 9, 0)
	s = committed(t, s, put(4, point(1, 1)), put(2, bent))
	s = committed(t, s, put(4, point(2, 2)), put(9, point(3, 3)))
	s = committed(t, s, drop(2), drop(9))
	maps := [][]impl.Entry{
		nil,
		{entry(2, bent), entry(4, point(1, 1))},
		{entry(2, bent), entry(4, point(2, 2)), entry(9, point(3, 3))},
		{entry(4, point(2, 2))},
	}
	undos := [][]impl.Change{
		{drop(4)},
		{put(2, bent), put(4, point(1, 1))},
		{put(2, bent), put(9, point(3, 3))},
		nil,
	}
	checkVersions(t, "committed", s.Disk, 3)
	for n := range maps {
		if m, ok := impl.AsOf(s.Disk, n); !ok || !sameEntries(m, maps[n]) {
			t.Errorf("as of %d: %v, %v, not %v", n, m, ok, maps[n])
		}
		if list, ok := impl.Undo(s.Disk, n); !ok || !sameChanges(list, undos[n]) {
			t.Errorf("undone to %d: %v, %v, not %v", n, list, ok, undos[n])
		}
	}
	for id, want := range map[int][]int{4: {1, 2}, 2: {1, 3}, 9: {2, 3}, 1: nil, 3: nil, 0: nil, -4: nil, mostId: nil} {
		checkTouched(t, "committed", s.Disk, id, want)
	}
	checkHistory(t, "committed", s.Disk)
	// A Draft is no part of it.
	checkPast(t, "a Draft", drafting(t, s, put(5, point(5, 5)), drop(4)).Disk, pastOf(
		[]impl.Change{put(4, point(1, 1)), put(2, bent)},
		[]impl.Change{put(4, point(2, 2)), put(9, point(3, 3))},
		[]impl.Change{drop(2), drop(9)}))
	checkPast(t, "compacted", compacted(t, s).Disk, pastOf([]impl.Change{put(4, point(2, 2))}))
}

func TestHistoriesOfNewStores(t *testing.T) {
	t.Parallel()
	for _, h := range []int{leastArea, leastArea + 1, 9, 50, mostArea} {
		d, _ := impl.StoreNew(h)
		checkPast(t, "new", d, pastOf())
		if m, ok := impl.AsOf(d, 0); !ok || len(m) != 0 {
			t.Error("as of 0:", m, ok)
		}
		if list, ok := impl.Undo(d, 0); !ok || len(list) != 0 {
			t.Error("undone to 0:", list, ok)
		}
		d.Queue = []impl.Write{write(2*h+1, filled(4)), write(0, filled(5))}
		checkPast(t, "new, with a queue that is no matter", d, pastOf())
	}
}

func TestNoHistories(t *testing.T) {
	t.Parallel()
	checkNoPast(t, "no disk", impl.Disk{})
	for what, d := range wrongDisks() {
		checkNoPast(t, what, d)
	}
	for _, sectors := range slices.Concat(idsFrom(1, 30, 1), []int{397, 398, 399, mostDisk}) {
		d := impl.DiskNew(sectors)
		if sectors < 10 || sectors%2 == 1 {
			checkNoPast(t, fmt.Sprint("sectors: ", sectors), d)
		} else {
			checkPast(t, fmt.Sprint("sectors: ", sectors), d, pastOf())
		}
	}
	// Of a store with a past, each with one thing wrong.
	for _, d := range disksOfRows(9, dotPuts(1, 3), []impl.Change{drop(2)}) {
		force, _ := wantForce(d)
		from, to := areaOf(d, force.area)
		for what, change := range map[string]func(w *impl.Disk){
			"a byte too many":        func(w *impl.Disk) { w.Bytes = append(w.Bytes, 0) },
			"a byte too few":         func(w *impl.Disk) { w.Bytes = w.Bytes[:len(w.Bytes)-1] },
			"a sector too many":      func(w *impl.Disk) { w.Bytes = append(w.Bytes, filled(0)...) },
			"a sector too few":       func(w *impl.Disk) { w.Bytes = w.Bytes[:len(w.Bytes)-sectorSize] },
			"too few sectors":        func(w *impl.Disk) { w.Bytes = w.Bytes[:8*sectorSize] },
			"a write of no sector":   func(w *impl.Disk) { w.Queue = []impl.Write{write(20, filled(0))} },
			"a write ahead of all":   func(w *impl.Disk) { w.Queue = []impl.Write{write(0, filled(0)), write(-1, filled(0))} },
			"a write that is short":  func(w *impl.Disk) { w.Queue = []impl.Write{write(3, filled(0)[1:])} },
			"the greatest epoch":     func(w *impl.Disk) { copy(w.Bytes[to*sectorSize:], endPiece(mostEpoch, 0, "")) },
			"and in the queue":       func(w *impl.Disk) { w.Queue = []impl.Write{write(from+4, endPiece(mostEpoch, 7, "x"))} },
			"first of all there":     func(w *impl.Disk) { copy(w.Bytes[from*sectorSize:], endPiece(mostEpoch, 0, "\x00")) },
			"in a piece that is cut": func(w *impl.Disk) { copy(w.Bytes[to*sectorSize:], fullPiece(mostEpoch, 3, 3)) },
		} {
			w := clonedDisk(d)
			change(&w)
			checkNoPast(t, what, w)
		}
		// In the other area it is no matter.
		other, _ := areaOf(d, 1-force.area)
		copy(d.Bytes[other*sectorSize:], endPiece(mostEpoch, 0, ""))
		checkPast(t, "the greatest epoch beside", d, pastOf(dotPuts(1, 3), []impl.Change{drop(2)}))
	}
}

// The log is that of the area in force, whatever stands in the other one.
func TestHistoryOfTheAreaInForce(t *testing.T) {
	t.Parallel()
	none := make([]byte, sectorSize)
	of := func(area int) past { return pastOf([]impl.Change{put(70+area, point(70+area, 70+area))}) }
	checkPast(t, "no head", twoAreas(none, none), of(0))
	for area := range 2 {
		head, less := headSector(byte(area), 7), headSector(byte(1-area), 6)
		checkPast(t, "in sector 0", twoAreas(head, none), of(area))
		checkPast(t, "in sector 1", twoAreas(none, head), of(area))
		checkPast(t, "the greater in sector 0", twoAreas(head, less), of(area))
		checkPast(t, "the greater in sector 1", twoAreas(less, head), of(area))
		checkPast(t, "two alike", twoAreas(head, headSector(byte(1-area), 7)), of(area))
		for what, sector := range noHeads() {
			checkPast(t, what, twoAreas(sector, head), of(area))
			checkPast(t, what, twoAreas(sector, none), of(0))
		}
		// More records in the one that is not in force.
		d := twoAreas(head, none)
		for i := range 3 {
			copy(d.Bytes[(3+5*(1-area)+i)*sectorSize:], endPiece(3, uint32(1+i), string(wantPutChanges(dotPuts(5, 1)))))
		}
		checkPast(t, "more in the other area", d, of(area))
	}
}

// rowsToKeep are rows of which each is of another kind.
func rowsToKeep() [][]impl.Change {
	return [][]impl.Change{
		{put(1, point(1, 1)), put(2, longLine(7))},
		{drop(2), put(3, point(3, 3))},
		nil,
		{put(1, area(square(0, 0, 9), hole(2, 2, 3)))},
	}
}

func TestHistoriesWithRecordsThatDoNotCount(t *testing.T) {
	t.Parallel()
	rows := rowsToKeep()
	for what, bad := range inOrder(badRecords()) {
		for at := range len(rows) + 1 {
			var records [][]byte
			for _, row := range rows {
				records = append(records, wantPutChanges(row))
			}
			records = slices.Insert(records, at, bad)
			for area := range 2 {
				d := impl.DiskNew(2*40 + 2)
				copy(d.Bytes, headSector(byte(area), 1))
				d = laidLog(d, 2+40*area, 2, area, records...)
				checkPast(t, fmt.Sprint(what, ", at ", at), d, pastOf(rows[:at]...))
				// What is committed behind the last one that counts is one more.
				s := committed(t, openedStore(t, d), put(8, point(8, 8)))
				checkPast(t, fmt.Sprint("behind ", what), s.Disk, pastOf(append(slices.Clone(rows[:at]), []impl.Change{put(8, point(8, 8))})...))
			}
		}
	}
}

func TestHistoriesWithRecordsThatAreNotWhole(t *testing.T) {
	t.Parallel()
	rows := append(rowsToKeep(), []impl.Change{put(5, longLine(9)), drop(1)})
	ends := []int{0}
	for _, row := range rows {
		ends = append(ends, ends[len(ends)-1]+pieces(len(wantPutChanges(row))))
	}
	for _, d := range disksOfRows(20, rows...) {
		force, _ := wantForce(d)
		from, _ := areaOf(d, force.area)
		for lost := range ends[len(rows)] {
			cut := clonedDisk(d)
			clear(cut.Bytes[(from+lost)*sectorSize:][:sectorSize])
			whole := 0
			for whole < len(rows) && ends[whole+1] <= lost {
				whole++
			}
			checkPast(t, fmt.Sprint("lost ", lost), cut, pastOf(rows[:whole]...))
			// Lost in the queue it is the same.
			cut = clonedDisk(d)
			cut.Queue = []impl.Write{write(from+lost, filled(0))}
			checkPast(t, fmt.Sprint("lost in the queue ", lost), cut, pastOf(rows[:whole]...))
		}
	}
}

// Records of no changes count, and are versions like others.
func TestRecordsOfNoChangesInHistories(t *testing.T) {
	t.Parallel()
	one := []impl.Change{put(1, point(1, 1))}
	checkRows(t, "one of none", 4, nil)
	checkRows(t, "three of none", 4, nil, nil, nil)
	checkRows(t, "ahead", 4, nil, one)
	checkRows(t, "behind", 4, one, nil)
	checkRows(t, "between", 6, one, nil, []impl.Change{drop(1)}, nil, nil, one)
	d := disksOfRows(4, nil, one, nil)[0]
	checkVersions(t, "ahead and behind", d, 3)
	for n, want := range [][]impl.Entry{nil, nil, dots(1, 1, 1), dots(1, 1, 1)} {
		if m, ok := impl.AsOf(d, n); !ok || !sameEntries(m, want) {
			t.Error("as of", n, m, ok)
		}
	}
	checkTouched(t, "ahead and behind", d, 1, []int{2})
}

// A record that has an empty piece more than it needs, and ones of more bytes than are added, count once.
func TestHistoriesOfRecordsInOtherForms(t *testing.T) {
	t.Parallel()
	row := []impl.Change{put(1, point(1, 1)), drop(2), drop(3), drop(4)}
	d := impl.DiskNew(20)
	copy(d.Bytes[2*sectorSize:], logPiece{1, 0, more, wantPutChanges(row)}.sector())
	copy(d.Bytes[3*sectorSize:], endPiece(1, 1, ""))
	checkPast(t, "an empty piece", d, pastOf(row))
	copy(d.Bytes[4*sectorSize:], endPiece(1, 2, string(wantPutChanges(nil))))
	copy(d.Bytes[5*sectorSize:], endPiece(2, 3, string(wantPutChanges(dotPuts(9, 1)))))
	checkPast(t, "and two more", d, pastOf(row, nil, dotPuts(9, 1)))
	var eight []impl.Change
	for i := range 8 {
		eight = append(eight, put(1+i, longLine(60)))
	}
	checkRows(t, "many bytes", mostArea, eight, []impl.Change{drop(5)})
}

// What a record puts as it stands there already is a change all the same, and so is a drop of what is not there.
func TestTouchedByExample(t *testing.T) {
	t.Parallel()
	rows := [][]impl.Change{
		{put(1, point(1, 1)), put(2, point(2, 2))},
		{put(1, point(1, 1))},
		{drop(2), put(2, point(5, 5)), drop(2)},
		nil,
		{drop(7), put(1, point(1, 1)), put(1, point(1, 1))},
		{put(3, point(3, 3)), put(mostId, point(4, 4)), drop(1), put(3, point(3, 3)), drop(3)},
		{drop(1)},
		{put(1, point(6, 6)), drop(mostId)},
	}
	for _, d := range disksOfRows(20, rows...) {
		for id, want := range map[int][]int{
			1: {1, 2, 5, 6, 7, 8}, 2: {1, 3}, 3: {6}, 7: {5}, mostId: {6, 8}, 4: nil, 5: nil, 8: nil,
			0: nil, -1: nil, -2: nil, mostId + 1: nil, 1<<32 + 1: nil, math.MinInt: nil, math.MinInt + 1: nil, math.MaxInt: nil,
		} {
			checkTouched(t, "by example", d, id, want)
		}
		checkPast(t, "by example", d, pastOf(rows...))
	}
	var all [][]impl.Change
	for i := range 9 {
		all = append(all, []impl.Change{drop(1 + i), put(500, point(i, i))})
	}
	d := disksOfRows(20, all...)[0]
	checkTouched(t, "all of them", d, 500, []int{1, 2, 3, 4, 5, 6, 7, 8, 9})
	for i := range 9 {
		checkTouched(t, "one of them", d, 1+i, []int{1 + i})
	}
	// As many changes as a record has, each of them counts.
	full := dotPuts(101, mostChanges)
	d = disksOfRows(60, full, slices.Repeat([]impl.Change{drop(101)}, mostChanges))[0]
	for i := range mostChanges {
		want := []int{1}
		if i == 0 {
			want = []int{1, 2}
		}
		checkTouched(t, "40 changes", d, 101+i, want)
	}
}

func TestUndoByExample(t *testing.T) {
	t.Parallel()
	plotted := area(square(0, 0, 9), hole(2, 2, 3))
	rows := [][]impl.Change{
		{put(5, point(5, 5)), put(3, plotted), put(8, point(8, 8))},
		{drop(5), put(3, line(0, 0, 1, 1))},
		{put(5, point(5, 6)), put(3, plotted), put(1, point(1, 1))},
		{drop(1), drop(3), drop(5), drop(8)},
	}
	for _, c := range []struct {
		versions int
		undos    [][]impl.Change
	}{
		{4, [][]impl.Change{
			nil,
			{put(3, plotted), put(5, point(5, 5)), put(8, point(8, 8))},
			{put(3, line(0, 0, 1, 1)), put(8, point(8, 8))},
			{put(1, point(1, 1)), put(3, plotted), put(5, point(5, 6)), put(8, point(8, 8))},
			nil,
		}},
		{3, [][]impl.Change{
			{drop(1), drop(3), drop(5), drop(8)},
			{drop(1), put(5, point(5, 5))},
			{drop(1), put(3, line(0, 0, 1, 1)), drop(5)},
			nil,
		}},
		{2, [][]impl.Change{
			{drop(3), drop(8)},
			{put(3, plotted), put(5, point(5, 5))},
			nil,
		}},
	} {
		for _, d := range disksOfRows(30, rows[:c.versions]...) {
			for n, want := range c.undos {
				if got, ok := impl.Undo(d, n); !ok || !sameChanges(got, want) {
					t.Errorf("%d undone to %d: %v, %v, not %v", c.versions, n, got, ok, want)
				}
			}
			checkPast(t, "undone", d, pastOf(rows[:c.versions]...))
		}
	}
}

// What Undo tells can be committed: then there is one version more, which is the old one again.
func TestUndoneAndCommitted(t *testing.T) {
	t.Parallel()
	s := newStore(t, 60)
	for _, row := range rowsToKeep() {
		s = committed(t, s, append([]impl.Change{put(9, point(9, 9)), drop(9)}, row...)...)
	}
	versions := impl.Versions(s.Disk)
	for n := range versions {
		list, ok := impl.Undo(s.Disk, n)
		if !ok || len(list) == 0 {
			t.Fatal("nothing to undo:", n, list, ok)
		}
		back := committed(t, s, list...)
		want, _ := impl.AsOf(s.Disk, n)
		if !sameEntries(back.Map, want) {
			t.Errorf("undone to %d: %s, not %s", n, shortList(back.Map), shortList(want))
		}
		checkHistory(t, "undone", back.Disk)
	}
}

// The writes that wait count as if they were done: of the log, of its heads, and of what ends it.
func TestHistoriesWithAQueue(t *testing.T) {
	t.Parallel()
	none := make([]byte, sectorSize)
	own := func(id int) []impl.Change { return []impl.Change{put(id, point(id, id))} }
	one, two := string(wantPutChanges(own(1))), string(wantPutChanges(own(2)))
	for what, c := range map[string]struct {
		queue []impl.Write
		want  past
	}{
		"none":                       {nil, pastOf(own(70))},
		"a record":                   {[]impl.Write{write(3, endPiece(3, 1, one))}, pastOf(own(70), own(1))},
		"two, the later one first":   {[]impl.Write{write(4, endPiece(4, 2, two)), write(3, endPiece(3, 1, one))}, pastOf(own(70), own(1), own(2))},
		"one of no changes":          {[]impl.Write{write(3, endPiece(3, 1, "\x00"))}, pastOf(own(70), nil)},
		"one that is no changes":     {[]impl.Write{write(3, endPiece(3, 1, "x")), write(4, endPiece(3, 2, one))}, pastOf(own(70))},
		"one that does not belong":   {[]impl.Write{write(3, endPiece(2, 1, one))}, pastOf(own(70))},
		"one that is not ended":      {[]impl.Write{write(3, fullPiece(3, 1, 0))}, pastOf(own(70))},
		"over another":               {[]impl.Write{write(2, endPiece(4, 0, two))}, pastOf(own(2))},
		"over another, twice":        {[]impl.Write{write(2, endPiece(4, 0, two)), write(2, endPiece(5, 0, one))}, pastOf(own(1))},
		"a record that is lost":      {[]impl.Write{write(2, none)}, pastOf()},
		"lost, and there again":      {[]impl.Write{write(2, none), write(2, endPiece(1, 0, two))}, pastOf(own(2))},
		"a head":                     {[]impl.Write{write(0, headSector(1, 1))}, pastOf(own(71))},
		"two heads":                  {[]impl.Write{write(0, headSector(1, 1)), write(1, headSector(0, 2))}, pastOf(own(70))},
		"a head that goes":           {[]impl.Write{write(0, headSector(1, 1)), write(0, none)}, pastOf(own(70))},
		"a head, and records there":  {[]impl.Write{write(8, endPiece(3, 1, two)), write(1, headSector(1, 1))}, pastOf(own(71), own(2))},
		"records in the other area":  {[]impl.Write{write(8, endPiece(3, 1, two))}, pastOf(own(70))},
		"a sector that is no matter": {[]impl.Write{write(6, filled(7)), write(11, filled(9))}, pastOf(own(70))},
	} {
		d := twoAreas(none, none)
		d.Queue = c.queue
		checkPast(t, what, d, c.want)
		checkPast(t, what+", done", impl.Sync(d), c.want)
		checkPast(t, what+", lost", impl.Crash(d, nil), pastOf(own(70)))
	}
}

// rowsOfMap are what a Compact makes of a map: rows of so many changes.
func rowsOfMap(t *testing.T, m []impl.Entry, sizes ...int) past {
	t.Helper()
	var rows [][]impl.Change
	for _, size := range sizes {
		var row []impl.Change
		for _, e := range m[:size] {
			row = append(row, put(e.Id, e.Shape))
		}
		rows, m = append(rows, row), m[size:]
	}
	if len(m) != 0 {
		t.Fatal("the test itself is wrong:", len(m))
	}
	return pastOf(rows...)
}

// behind is a past with these rows more.
func (p past) behind(rows ...[]impl.Change) past { return pastOf(slices.Concat(p.rows, rows)...) }

func TestWhatACompactLeaves(t *testing.T) {
	t.Parallel()
	dot, long := point(1, 1), longLine(60)
	for what, c := range map[string]struct {
		shapes []impl.Shape
		rows   []int
	}{
		"no Entries":                  {nil, []int{0}},
		"one":                         {[]impl.Shape{dot}, []int{1}},
		"just a row":                  {slices.Repeat([]impl.Shape{dot}, 40), []int{40}},
		"a row and one":               {slices.Repeat([]impl.Shape{dot}, 41), []int{40, 1}},
		"three rows":                  {slices.Repeat([]impl.Shape{dot}, 120), []int{40, 40, 40}},
		"four long ones":              {slices.Repeat([]impl.Shape{long}, 4), []int{4}},
		"five long ones":              {slices.Repeat([]impl.Shape{long}, 5), []int{4, 1}},
		"just as many bytes":          {bytesOfRow(3999), []int{len(bytesOfRow(3999))}},
		"one byte more":               {bytesOfRow(4000), []int{len(bytesOfRow(4000)) - 1, 1}},
		"by bytes, then by how many":  {slices.Concat(slices.Repeat([]impl.Shape{long}, 4), slices.Repeat([]impl.Shape{dot}, 44)), []int{7, 40, 1}},
		"by how many, then by bytes":  {slices.Concat(slices.Repeat([]impl.Shape{dot}, 39), slices.Repeat([]impl.Shape{long}, 4)), []int{40, 3}},
		"as many as there is room of": {slices.Repeat([]impl.Shape{dot}, 280), []int{40, 40, 40, 40, 40, 40, 40}},
	} {
		s := filledStore(t, mostArea, c.shapes...)
		want := rowsOfMap(t, s.Map, c.rows...)
		if len(want.maps) != len(c.rows)+1 || !sameEntries(want.now(), s.Map) {
			t.Fatal("the test itself is wrong:", what)
		}
		first := compacted(t, s)
		checkPast(t, what, first.Disk, want)
		checkPast(t, what+", twice", compacted(t, first).Disk, want)
		if impl.LogRoom(first.Log) < 30 {
			continue
		}
		// What is committed behind it counts on from there.
		more := [][]impl.Change{{put(900, dot), put(1, long)}, {drop(1)}, {put(900, dot)}}
		for i, row := range more {
			first = committed(t, first, row...)
			checkPast(t, what+", and commits", first.Disk, want.behind(more[:i+1]...))
		}
	}
}

// An area that comes into force again has an epoch of its own: what stands there of older ones is behind the end.
func TestHistoriesOfAreasThatCameBack(t *testing.T) {
	t.Parallel()
	for _, olds := range []int{1, 2, 6, 9} {
		s := newStore(t, 9)
		var rows [][]impl.Change
		for i := range olds {
			rows = append(rows, []impl.Change{put(1+i%2, point(i, i))})
			s = committed(t, s, rows[i]...)
		}
		checkPast(t, "ahead", s.Disk, pastOf(rows...))
		packed := rowsOfMap(t, s.Map, len(s.Map))
		s = compacted(t, s)
		checkPast(t, "in area 1", s.Disk, packed)
		s = committed(t, s, put(50, point(5, 5)))
		checkPast(t, "and one more", s.Disk, packed.behind([]impl.Change{put(50, point(5, 5))}))
		packed = rowsOfMap(t, s.Map, len(s.Map))
		s = compacted(t, s)
		if at := packedPieces(packed); at < olds {
			p, ok := wantPiece(s.Disk.Bytes[(2+at)*sectorSize:][:sectorSize])
			if !ok || int(p.epoch) != at+1 || int(p.number) != at || s.Area != 0 {
				t.Fatal("the test itself is wrong:", p, ok)
			}
		}
		checkPast(t, "in area 0 again", s.Disk, packed)
		for i := range 6 {
			row := []impl.Change{put(60+i, point(i, 5)), drop(50)}
			packed = packed.behind(row)
			s.Draft = row
			s, _ = checkCommit(t, s)
			checkPast(t, "and more there", s.Disk, packed)
		}
		for range 3 {
			s = compacted(t, s)
			checkPast(t, "and on", s.Disk, rowsOfMap(t, s.Map, len(s.Map)))
		}
	}
}

// packedPieces are how many sectors the records of a past have.
func packedPieces(p past) int {
	out := 0
	for _, row := range p.rows {
		out += pieces(len(wantPutChanges(row)))
	}
	return out
}

func TestHistoriesBehindACutCommit(t *testing.T) {
	t.Parallel()
	d := &dice{1901}
	for what, s := range inOrder(storesToCut(t)) {
		before, ok := checkHistory(t, what, s.Disk)
		if !ok {
			t.Fatal("no past:", what)
		}
		for _, row := range draftsToCut() {
			full := drafting(t, s, row...)
			count := pieces(len(wantPutChanges(row)))
			for i, keep := range coinsFor(count, d) {
				if i%3 > 0 && i > 8 {
					continue
				}
				want := before.behind(row)
				for i := range count {
					if !keep(i) {
						want = before
					}
				}
				cut := cutCommit(full, keep)
				checkVersions(t, what, cut, len(want.rows))
				for _, n := range []int{-1, 0, len(want.rows) - 1, len(want.rows), len(want.rows) + 1} {
					checkVersion(t, what, cut, n, want)
				}
				for _, c := range row {
					checkTouched(t, what, cut, c.Id, want.touched(c.Id))
				}
			}
		}
	}
}

// Ahead of the head the past is the one it was, behind it what the Compact leaves.
func TestHistoriesBehindACutCompact(t *testing.T) {
	t.Parallel()
	d := &dice{1902}
	list := storesToCut(t)
	list["two rows by how many"] = committed(t, filledStore(t, 66, slices.Repeat([]impl.Shape{point(4, 4)}, 60)...), drop(7))
	list["two rows by bytes"] = filledStore(t, 140, slices.Repeat([]impl.Shape{longLine(60)}, 5)...)
	list["no Entries"] = newStore(t, 9)
	for what, s := range inOrder(list) {
		before, _ := wantPast(s.Disk)
		behind, _ := wantPast(compacted(t, s).Disk)
		steps, _, ok := wantSteps(s)
		if !ok || len(behind.rows) != len(steps)-1 || !sameEntries(before.now(), behind.now()) {
			t.Fatal("the test itself is wrong:", what)
		}
		disk := s.Disk
		for i, writes := range steps {
			for j, keep := range coinsFor(len(writes), d) {
				want := before
				if i == len(steps)-1 && keep(0) {
					want = behind
				}
				if j < 6 {
					checkPast(t, what, cutWrites(disk, writes, keep), want)
				}
			}
			disk = wantDone(disk, writes)
			if i < len(steps)-1 {
				checkPast(t, what+", whole rows ahead of the head", disk, before)
			}
		}
		checkPast(t, what+", all of it", disk, behind)
	}
}

// A log that is full to its last sector, of as many records as may be, and of as many Entries.
func TestFullHistories(t *testing.T) {
	t.Parallel()
	var rows [][]impl.Change
	for i := range mostArea {
		row := []impl.Change{put(1+i%50, point(i, 1))}
		if i%7 == 6 {
			row = []impl.Change{drop(1 + i%50), drop(i), put(77, point(i, i))}
		}
		rows = append(rows, row)
	}
	want := pastOf(rows...)
	d := disksOfRows(mostArea, rows...)[3]
	checkVersions(t, "full", d, mostArea)
	for _, n := range []int{-1, 0, 1, 2, 50, 100, mostArea - 1, mostArea, mostArea + 1} {
		checkVersion(t, "full", d, n, want)
	}
	for _, id := range want.ids() {
		checkTouched(t, "full", d, id, want.touched(id))
	}
	var many [][]impl.Change
	for i := range 7 {
		many = append(many, dotPuts(1+40*i, 40))
	}
	many = append(many, dotPuts(281, 24), []impl.Change{drop(140)})
	checkPast(t, "many Entries", disksOfRows(mostArea, many...)[0], pastOf(many...))
}

func TestHistoriesByChance(t *testing.T) {
	t.Parallel()
	d := &dice{1903}
	counts := map[int]int{}
	for range rounds / 2 {
		disk := d.storeDisk()
		if d.below(20) == 0 {
			disk.Bytes[d.below(len(disk.Bytes))] ^= byte(1 << d.below(8))
		}
		want, ok := checkHistory(t, "by chance", disk)
		if !ok {
			counts[-1]++
			continue
		}
		counts[len(want.rows)]++
	}
	for versions := -1; versions < 6; versions++ {
		if counts[versions] < 15 {
			t.Error("the test itself is wrong:", counts)
		}
	}
}

// pastRow is of few changes, all right ones, of few Ids.
func (d *dice) pastRow() []impl.Change {
	shapes := shapesOfEachKind()
	var out []impl.Change
	for range d.below(4) {
		c := drop(1 + d.below(12))
		if d.below(3) > 0 {
			c = put(c.Id, shapes[d.below(len(shapes))])
		}
		out = append(out, c)
	}
	return out
}

// pastDisk has a log of many records, some of them not right, upon older ones, and some of its sectors in the queue.
func (d *dice) pastDisk() impl.Disk {
	h := 20 + d.below(60)
	out := impl.DiskNew(2*h + 2)
	area := d.below(2)
	copy(out.Bytes[d.below(2)*sectorSize:], headSector(byte(area), uint32(1+d.below(3))))
	for _, epoch := range []int{1 + d.below(3), 2 + d.below(9)} {
		var records [][]byte
		left := h
		for len(records) < 6+d.below(30) {
			one := wantPutChanges(d.pastRow())
			if d.below(60) == 0 {
				one = d.bytes(d.below(60))
			}
			if pieces(len(one)) > left {
				break
			}
			left -= pieces(len(one))
			records = append(records, one)
		}
		at := 2 + h*area
		laid := laidLog(impl.DiskNew(2*h+2), at, epoch, d.below(2), records...)
		for sector := at; sector < at+h-left; sector++ {
			copy(out.Bytes[sector*sectorSize:], laid.Bytes[sector*sectorSize:][:sectorSize])
		}
	}
	for range d.below(4) {
		at := 2 + d.below(2*h)
		out.Queue = append(out.Queue, write(at, slices.Clone(out.Bytes[at*sectorSize:][:sectorSize])))
		copy(out.Bytes[at*sectorSize:], d.data())
	}
	return out
}

func TestLongHistoriesByChance(t *testing.T) {
	t.Parallel()
	d := &dice{1904}
	few, many := 0, 0
	for range 250 {
		want, _ := checkHistory(t, "long ones by chance", d.pastDisk())
		if len(want.rows) > 12 {
			many++
		} else {
			few++
		}
	}
	if few < 40 || many < 40 {
		t.Error("the test itself is wrong:", few, many)
	}
}

// pastLife is a store beside the changes that were committed, of which its past must be.
type pastLife struct {
	s    impl.Store
	want past
}

// A long life of a store: each commit is one version more, each compact begins anew.
func TestHistoriesInTheLongRun(t *testing.T) {
	t.Parallel()
	d := &dice{1905}
	seen := map[string]int{}
	for range 24 {
		life := pastLife{newStore(t, leastArea+d.below(30)), pastOf()}
		for range 50 {
			for range 1 + d.below(3) {
				life.s = drafting(t, life.s, d.storeChange(wantVisible(life.s)))
			}
			what := life.step(t, d)
			seen[what]++
			checkPast(t, what, life.s.Disk, life.want)
		}
	}
	for _, what := range []string{"committed", "compacted", "cut, kept", "cut, lost", "compact cut", "compact cut, kept"} {
		if seen[what] < 10 {
			t.Error("too few of a kind:", what, seen)
		}
	}
}

func (l *pastLife) step(t *testing.T, d *dice) string {
	t.Helper()
	row := l.s.Draft
	switch d.below(8) {
	case 0:
		return l.compact(t)
	case 1:
		return l.cutCompact(t, d)
	case 2, 3:
		count := len(impl.LogWrites(l.s.Log, impl.PutChanges(row)))
		if count == 0 {
			return l.compact(t)
		}
		lost := d.below(count + 1)
		l.s = openedStore(t, cutCommit(l.s, func(i int) bool { return i != lost }))
		if lost < count {
			return "cut, lost"
		}
		l.want = l.want.behind(row)
		return "cut, kept"
	}
	next, code := impl.Commit(l.s)
	if code != storeGood {
		return l.compact(t)
	}
	l.s, l.want = next, l.want.behind(row)
	return "committed"
}

// leaves is the past that a Compact leaves, as chapter 14 has its rows.
func (l *pastLife) leaves() past {
	rows, _ := wantRows(wantBetween(nil, l.s.Map))
	return pastOf(rows...)
}

func (l *pastLife) compact(t *testing.T) string {
	t.Helper()
	next, code := impl.Compact(l.s)
	if code != storeGood {
		return "not compacted"
	}
	l.want = l.leaves()
	l.s = impl.Abort(next)
	return "compacted"
}

func (l *pastLife) cutCompact(t *testing.T, d *dice) string {
	t.Helper()
	steps, _, ok := wantSteps(l.s)
	if !ok {
		return "not compacted"
	}
	disk, at := l.s.Disk, d.below(len(steps))
	for _, writes := range steps[:at] {
		disk = wantDone(disk, writes)
	}
	keep := d.below(2) == 0
	cut := cutWrites(disk, steps[at], func(int) bool { return keep })
	if keep && at == len(steps)-1 {
		l.want, l.s = l.leaves(), openedStore(t, cut)
		return "compact cut, kept"
	}
	l.s = openedStore(t, cut)
	return "compact cut"
}

// disksForHistories are stores of many kinds, some that are none, and some whose lists share memory.
func disksForHistories(t *testing.T) []impl.Disk {
	t.Helper()
	d := &dice{1906}
	one := area(square(0, 0, 9), hole(2, 2, 3))
	list := disksOfRows(40, rowsToKeep()...)
	list = append(list, disksOfRows(60, []impl.Change{put(1, one), put(2, one), put(3, longLine(9))}, []impl.Change{put(4, one), put(1, one)}, []impl.Change{drop(2), put(5, one)}, []impl.Change{drop(1)})...)
	for _, s := range inOrder(storesToCut(t)) {
		list = append(list, s.Disk)
	}
	for range 20 {
		list = append(list, d.storeDisk(), d.pastDisk())
	}
	list = append(list, impl.Disk{}, impl.DiskNew(9), impl.DiskNew(10), impl.Disk{Bytes: make([]byte, 700)})
	shared := impl.DiskNew(30)
	laidLog(shared, 2, 1, 1, wantPutChanges([]impl.Change{put(1, one), put(2, point(1, 1))}), wantPutChanges([]impl.Change{drop(2)}))
	data := shared.Bytes[2*sectorSize:][:sectorSize]
	shared.Queue = []impl.Write{write(20, data), write(21, data), write(22, shared.Bytes[:sectorSize])}
	return append(list, shared)
}

// historyCalls are all that answer lists, of a disk and a number.
func historyCalls() map[string]func(d impl.Disk, n int) changeAnswer {
	return map[string]func(d impl.Disk, n int) changeAnswer{
		"AsOf": func(d impl.Disk, n int) changeAnswer {
			m, ok := impl.AsOf(d, n)
			return answerOf(m, shapeOfEntry, ok)
		},
		"Undo": func(d impl.Disk, n int) changeAnswer {
			list, ok := impl.Undo(d, n)
			return answerOf(list, shapeOfChange, ok)
		},
		"Touched": func(d impl.Disk, n int) changeAnswer {
			numbers := impl.Touched(d, n)
			return changeAnswer{
				tell:  func() string { return fmt.Sprint(numbers) },
				clear: func() { clear(numbers[:cap(numbers)]) },
			}
		},
		"Versions": func(d impl.Disk, _ int) changeAnswer {
			n := impl.Versions(d)
			return changeAnswer{tell: func() string { return fmt.Sprint(n) }, clear: func() {}}
		},
	}
}

func (a changeAnswer) overwrite() {
	for _, s := range a.shapes {
		overwrite(s)
	}
	a.clear()
}

// The disk, and what lies behind its lists, stay as they are, what is behind is not looked at, and no answer hangs on it.
func TestHistoryCallsLeaveTheirDisk(t *testing.T) {
	t.Parallel()
	for what, call := range historyCalls() {
		for _, d := range disksForHistories(t) {
			for _, n := range []int{-1, 0, 1, 2, 3, 4, 99} {
				want := call(clonedDisk(d), n).tell()
				given, same := roomyDisk(d)
				got := call(given, n)
				if got.tell() != want || !same() {
					t.Fatalf("%s of %d changes its disk, or looks at what lies behind: %s", what, n, shortDisk(d))
				}
				call(given, n).overwrite()
				if got.tell() != want || !same() {
					t.Fatalf("%s of %d answers memory of its disk: %s", what, n, shortDisk(d))
				}
				overwriteDisk(given)
				if got.tell() != want {
					t.Fatalf("%s of %d hangs on its disk: %s", what, n, shortDisk(d))
				}
			}
		}
	}
}

func TestHistoryAnswersAreTheirOwn(t *testing.T) {
	t.Parallel()
	calls := historyCalls()
	for what, call := range calls {
		for _, d := range disksForHistories(t) {
			for _, n := range []int{0, 1, 2, 3, 4} {
				kept := call(d, n)
				want := kept.tell()
				for _, other := range calls {
					for m := range 5 {
						other(d, m).overwrite()
					}
				}
				if kept.tell() != want || call(d, n).tell() != want {
					t.Fatalf("%s of %d shares memory with another answer: %s", what, n, shortDisk(d))
				}
				checkShapesApart(t, what, kept.shapes)
			}
		}
	}
}

// What was refused, or asked for ahead, leaves nothing behind; nor do calls at the same time.
func TestHistoryCallsKeepNothing(t *testing.T) {
	t.Parallel()
	tell := func(d impl.Disk) string {
		text := fmt.Sprint(impl.Versions(d))
		for n := range 6 {
			m, ok := impl.AsOf(d, n-1)
			list, okUndo := impl.Undo(d, n-1)
			text += fmt.Sprint(m, ok, list, okUndo, impl.Touched(d, n))
		}
		return text
	}
	checkKeepsNothing(t, disksForHistories(t), tell, shortDisk)
}
