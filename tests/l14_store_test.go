package tests

import (
	"bytes"
	"encoding/binary"
	"fmt"
	"maps"
	"math"
	"slices"
	"strings"
	"testing"

	"loop.example/g00108/impl"
)

const (
	storeGood = 0
	storeBad  = 30
	storeFull = 31
	storeMany = 32
	storeNone = 33
	// How many sectors an area has, at least and at most.
	leastArea = 4
	mostArea  = 199
)

// headSector is the sector of a head.
func headSector(area byte, turn uint32) []byte {
	return logPiece{1, turn, last, []byte{area}}.sector()
}

// storeHead is what a head tells, and the sector it stands in.
type storeHead struct{ at, area, turn int }

func wantHeads(d impl.Disk) []storeHead {
	var out []storeHead
	for at := range 2 {
		sector := wantSector(d, at, always)
		turn := binary.LittleEndian.Uint32(sector[4:])
		for area := range 2 {
			if turn > 0 && turn <= mostEpoch && bytes.Equal(sector, headSector(byte(area), turn)) {
				out = append(out, storeHead{at, area, int(turn)})
			}
		}
	}
	return out
}

// wantForce is the head in force, and the sector into which the next one goes.
func wantForce(d impl.Disk) (storeHead, int) {
	list := wantHeads(d)
	switch {
	case len(list) == 0:
		return storeHead{}, 0
	case len(list) == 2 && list[1].turn > list[0].turn:
		return list[1], 0
	}
	return list[0], 1 - list[0].at
}

// areaOf are the first and the last sector of an area.
func areaOf(d impl.Disk, area int) (int, int) {
	h := len(d.Bytes)/sectorSize/2 - 1
	return 2 + area*h, 1 + (area+1)*h
}

func wantStore(d impl.Disk) (impl.Store, int) {
	sectors := len(d.Bytes) / sectorSize
	if !wantDiskOk(d) || sectors < 10 || sectors&1 == 1 {
		return impl.Store{}, storeBad
	}
	force, _ := wantForce(d)
	from, to := areaOf(d, force.area)
	l, records, ok := wantOpen(d, from, to)
	if !ok {
		return impl.Store{}, storeBad
	}
	s := impl.Store{Disk: d, Log: l, Area: force.area, Turn: force.turn}
	s.Log.Next = 0
	var ends []int
	for i, p := range logPieces(d, from, to) {
		if p != nil && p.mark == last {
			ends = append(ends, i+1)
		}
	}
	for i, one := range records {
		list, ok := wantGetChanges(one)
		if !ok {
			break
		}
		if s.Map, ok = wantApply(s.Map, list); !ok {
			break
		}
		s.Log.Next = ends[i]
	}
	return s, storeGood
}

// wantIsStore: Open could have made it of its Disk, and its Draft is one.
func wantIsStore(s impl.Store) bool {
	made, code := wantStore(s.Disk)
	if code != storeGood || s.Log != made.Log || s.Area != made.Area || s.Turn != made.Turn || !sameEntries(s.Map, made.Map) {
		return false
	}
	for i, c := range s.Draft {
		if i == mostChanges || !wantChangeOk(c) {
			return false
		}
	}
	return true
}

func wantVisible(s impl.Store) []impl.Entry {
	m, _ := wantApply(s.Map, s.Draft)
	return m
}

func wantDrafted(s impl.Store, c impl.Change) (impl.Store, int) {
	if !wantIsStore(s) {
		return s, storeBad
	}
	_, there := wantFind(wantVisible(s), c.Id)
	switch {
	case !wantChangeOk(c) || c.Kind == 2 && !there:
		return s, storeNone
	case len(s.Draft) >= mostChanges:
		return s, storeMany
	}
	s.Draft = slices.Concat(s.Draft, []impl.Change{c})
	return s, storeGood
}

func withoutDraft(s impl.Store) impl.Store {
	s.Draft = nil
	return s
}

func wantAbort(s impl.Store) impl.Store {
	if !wantIsStore(s) {
		return s
	}
	return withoutDraft(s)
}

func wantCommit(s impl.Store) (impl.Store, int) {
	if !wantIsStore(s) {
		return s, storeBad
	}
	m, ok := wantApply(s.Map, s.Draft)
	if !ok {
		return withoutDraft(s), storeMany
	}
	if len(s.Draft) == 0 {
		return s, storeGood
	}
	writes := wantWrites(s.Log, wantPutChanges(s.Draft))
	// What is written with the greatest epoch could not be opened any more.
	if len(writes) == 0 || s.Log.Epoch == mostEpoch {
		return withoutDraft(s), storeFull
	}
	s = withoutDraft(s)
	s.Disk = wantDone(s.Disk, writes)
	s.Log.Next += len(writes)
	s.Log.Epoch++
	s.Map = m
	return s, storeGood
}

// wantDone is the disk with its queue and these writes done.
func wantDone(d impl.Disk, writes []impl.Write) impl.Disk {
	return wantSettled(impl.Disk{Bytes: d.Bytes, Queue: slices.Concat(d.Queue, writes)}, always)
}

// wantRows are the changes in rows, each of as many as may be; false when there is a change that no row may have.
func wantRows(list []impl.Change) ([][]impl.Change, bool) {
	rows := [][]impl.Change{}
	for len(list) > 0 {
		n := min(len(list), mostChanges)
		for n > 0 && len(wantPutChanges(list[:n])) > mostRecord {
			n--
		}
		if n == 0 {
			return nil, false
		}
		rows, list = append(rows, list[:n]), list[n:]
	}
	if len(rows) == 0 {
		rows = append(rows, nil)
	}
	return rows, true
}

// wantSteps are the writes of a Compact, those ahead of each Sync by themselves, and the log that comes of them; false when it is refused.
func wantSteps(s impl.Store) ([][]impl.Write, impl.Log, bool) {
	from, to := areaOf(s.Disk, 1-s.Area)
	l, _, ok := wantOpen(s.Disk, from, to)
	rows, right := wantRows(wantBetween(nil, s.Map))
	if !ok || !right || s.Turn == mostEpoch || l.Epoch == mostEpoch {
		return nil, l, false
	}
	l.Next = 0
	var steps [][]impl.Write
	for _, one := range rows {
		writes := wantWrites(l, wantPutChanges(one))
		if len(writes) == 0 {
			return nil, l, false
		}
		l.Next += len(writes)
		steps = append(steps, writes)
	}
	l.Epoch++
	_, at := wantForce(s.Disk)
	return append(steps, []impl.Write{write(at, headSector(byte(1-s.Area), uint32(s.Turn+1)))}), l, true
}

func wantCompact(s impl.Store) (impl.Store, int) {
	if !wantIsStore(s) {
		return s, storeBad
	}
	steps, l, ok := wantSteps(s)
	if !ok {
		return s, storeFull
	}
	s.Disk = wantDone(s.Disk, slices.Concat(steps...))
	s.Log, s.Area, s.Turn = l, 1-s.Area, s.Turn+1
	return s, storeGood
}

func sameStore(a, b impl.Store) bool {
	return sameDisk(a.Disk, b.Disk) && a.Log == b.Log && a.Area == b.Area && a.Turn == b.Turn && sameEntries(a.Map, b.Map) && sameChanges(a.Draft, b.Draft)
}

// shortStore tells a store so that a failure can be read.
func shortStore(s impl.Store) string {
	return fmt.Sprintf("{%s, log %v, area %d, turn %d, map %s, draft %s}", shortDisk(s.Disk), s.Log, s.Area, s.Turn, shortList(s.Map), shortList(s.Draft))
}

func checkStoreAnswer(t *testing.T, call string, got impl.Store, code int, want impl.Store, wantCode int) {
	t.Helper()
	if code != wantCode || !sameStore(got, want) {
		t.Fatalf("%s: %d, not %d:\n%s, not\n%s", call, code, wantCode, shortStore(got), shortStore(want))
	}
}

func checkStoreOpen(t *testing.T, d impl.Disk) (impl.Store, int) {
	t.Helper()
	got, code := impl.Open(d)
	want, wantCode := wantStore(d)
	checkStoreAnswer(t, "Open", got, code, want, wantCode)
	return got, code
}

func checkPutIn(t *testing.T, s impl.Store, id int, one impl.Shape) (impl.Store, int) {
	t.Helper()
	got, code := impl.Put(s, id, one)
	want, wantCode := wantDrafted(s, put(id, one))
	checkStoreAnswer(t, fmt.Sprint("Put ", id, short(fmt.Sprint(one))), got, code, want, wantCode)
	return got, code
}

func checkDropIn(t *testing.T, s impl.Store, id int) (impl.Store, int) {
	t.Helper()
	got, code := impl.Drop(s, id)
	want, wantCode := wantDrafted(s, drop(id))
	checkStoreAnswer(t, fmt.Sprint("Drop ", id), got, code, want, wantCode)
	return got, code
}

func checkVisible(t *testing.T, s impl.Store) []impl.Entry {
	t.Helper()
	got, want := impl.Visible(s), wantVisible(s)
	if !sameEntries(got, want) {
		t.Fatalf("Visible of %s: %s, not %s", shortStore(s), shortList(got), shortList(want))
	}
	return got
}

func checkAbort(t *testing.T, s impl.Store) impl.Store {
	t.Helper()
	got := impl.Abort(s)
	checkStoreAnswer(t, "Abort", got, 0, wantAbort(s), 0)
	return got
}

// checkSettling: a Commit or a Compact, and that what it makes of a store is what Open makes of its Disk, but for the Draft.
func checkSettling(t *testing.T, what string, s impl.Store, call, want func(impl.Store) (impl.Store, int)) (impl.Store, int) {
	t.Helper()
	got, code := call(s)
	wanted, wantCode := want(s)
	checkStoreAnswer(t, what, got, code, wanted, wantCode)
	if code == storeGood {
		again, codeAgain := checkStoreOpen(t, got.Disk)
		checkStoreAnswer(t, "opened anew behind "+what, again, codeAgain, withoutDraft(got), storeGood)
	}
	return got, code
}

func checkCommit(t *testing.T, s impl.Store) (impl.Store, int) {
	t.Helper()
	return checkSettling(t, "Commit", s, impl.Commit, wantCommit)
}

func checkCompact(t *testing.T, s impl.Store) (impl.Store, int) {
	t.Helper()
	return checkSettling(t, "Compact", s, impl.Compact, wantCompact)
}

// checkAllOf: each call answers of this store what it must.
func checkAllOf(t *testing.T, s impl.Store) {
	t.Helper()
	checkPutIn(t, s, 3, point(7, 7))
	checkDropIn(t, s, 3)
	checkAbort(t, s)
	checkVisible(t, s)
	checkCommit(t, s)
	checkCompact(t, s)
}

func openedStore(t *testing.T, d impl.Disk) impl.Store {
	t.Helper()
	s, code := checkStoreOpen(t, d)
	if code != storeGood {
		t.Fatal("not opened:", code, shortDisk(d))
	}
	return s
}

// newStore has areas of so many sectors.
func newStore(t *testing.T, h int) impl.Store {
	t.Helper()
	d, ok := impl.StoreNew(h)
	if !ok {
		t.Fatal("no new store of", h)
	}
	return openedStore(t, d)
}

// drafting are the changes as one more part of the Draft, none of them refused.
func drafting(t *testing.T, s impl.Store, list ...impl.Change) impl.Store {
	t.Helper()
	for _, c := range list {
		code := 0
		if c.Kind == impl.ChangePut {
			s, code = checkPutIn(t, s, c.Id, c.Shape)
		} else {
			s, code = checkDropIn(t, s, c.Id)
		}
		if code != storeGood {
			t.Fatal("refused:", code, c)
		}
	}
	return s
}

func committed(t *testing.T, s impl.Store, list ...impl.Change) impl.Store {
	t.Helper()
	s, code := checkCommit(t, drafting(t, s, list...))
	if code != storeGood {
		t.Fatal("not committed:", code, shortStore(s))
	}
	return s
}

func compacted(t *testing.T, s impl.Store) impl.Store {
	t.Helper()
	s, code := checkCompact(t, s)
	if code != storeGood {
		t.Fatal("not compacted:", code, shortStore(s))
	}
	return s
}

// checkIs: what of a store can be told without its bytes.
func checkIs(t *testing.T, what string, s impl.Store, l impl.Log, area, turn int, m []impl.Entry, draft ...impl.Change) {
	t.Helper()
	if s.Log != l || s.Area != area || s.Turn != turn || !sameEntries(s.Map, m) || !sameChanges(s.Draft, draft) {
		t.Errorf("%s: log %v, area %d, turn %d, map %s, draft %s; not %v, %d, %d, %s, %s", what, s.Log, s.Area, s.Turn, shortList(s.Map), shortList(s.Draft), l, area, turn, shortList(m), shortList(draft))
	}
}

// checkRefused: a call told this code, and the store that is named with it.
func checkRefused(t *testing.T, what string, got impl.Store, code int, want impl.Store, wantCode int) {
	t.Helper()
	if code != wantCode || !sameStore(got, want) {
		t.Errorf("%s: %d %s, not %d %s", what, code, shortStore(got), wantCode, shortStore(want))
	}
}

// dotPuts put so many points, from an Id on, one record each of 26 pieces at 40.
func dotPuts(first, count int) []impl.Change {
	var out []impl.Change
	for i := range count {
		out = append(out, put(first+i, point(first+i, i)))
	}
	return out
}

// longLine is good, with so many points.
func longLine(n int) impl.Shape { return shape(impl.ShapeLine, bow(0, 0, n)) }

func TestStoreConstants(t *testing.T) {
	if impl.StoreGood != storeGood || impl.StoreBad != storeBad || impl.StoreFull != storeFull || impl.StoreMany != storeMany || impl.StoreNone != storeNone {
		t.Error("constants:", impl.StoreGood, impl.StoreBad, impl.StoreFull, impl.StoreMany, impl.StoreNone)
	}
}

func TestNewStores(t *testing.T) {
	for _, h := range []int{leastArea, leastArea + 1, 6, 50, 198, mostArea} {
		d, ok := impl.StoreNew(h)
		if !ok || !sameDisk(d, impl.DiskNew(2*h+2)) || len(d.Bytes) != (2*h+2)*sectorSize {
			t.Errorf("a new store of %d: %s, %v", h, shortDisk(d), ok)
		}
		s := openedStore(t, d)
		checkIs(t, "new", s, impl.Log{First: 2, Last: h + 1, Epoch: 1}, 0, 0, nil)
		if !sameDisk(s.Disk, d) || len(checkVisible(t, s)) != 0 || impl.LogRoom(s.Log) != h {
			t.Error("a new store:", shortStore(s))
		}
		checkAllOf(t, s)
	}
	for _, h := range []int{leastArea - 1, 2, 1, 0, -1, -2, -4, -100, mostArea + 1, mostArea + 2, 400, 1000, 1 << 31, 1 << 32, 1<<32 + 4, 1 << 61, 1 << 62, 1<<62 + 4, 1<<62 + 199, math.MaxInt, math.MaxInt - 1, math.MaxInt / 2, math.MinInt, math.MinInt + 4, math.MinInt + 100, math.MinInt / 2, math.MinInt/2 + 4, -1 << 32} {
		if d, ok := impl.StoreNew(h); ok || len(d.Bytes) != 0 || len(d.Queue) != 0 {
			t.Errorf("a new store of %d: %s, %v", h, shortDisk(d), ok)
		}
	}
}

func TestDisksThatHaveAStore(t *testing.T) {
	for _, sectors := range slices.Concat(idsFrom(1, 30, 1), []int{63, 64, 128, 129, 397, 398, 399, mostDisk}) {
		s, code := checkStoreOpen(t, impl.DiskNew(sectors))
		if sectors < 10 || sectors%2 == 1 {
			checkRefused(t, fmt.Sprint("sectors: ", sectors), s, code, impl.Store{}, storeBad)
			continue
		}
		if code != storeGood {
			t.Error("sectors:", sectors, code)
		}
		checkIs(t, fmt.Sprint("sectors: ", sectors), s, impl.Log{First: 2, Last: sectors / 2, Epoch: 1}, 0, 0, nil)
	}
	for what, d := range wrongDisks() {
		s, code := checkStoreOpen(t, d)
		checkRefused(t, what, s, code, impl.Store{}, storeBad)
	}
	// Enough sectors, and something else is wrong.
	for what, d := range map[string]impl.Disk{
		"no disk":                {},
		"a byte too many":        {Bytes: make([]byte, 10*sectorSize+1)},
		"a byte too few":         {Bytes: make([]byte, 10*sectorSize-1)},
		"two sectors too many":   {Bytes: make([]byte, 402*sectorSize)},
		"a write of no sector":   {Bytes: make([]byte, 10*sectorSize), Queue: []impl.Write{write(10, filled(0))}},
		"a write ahead of all":   {Bytes: make([]byte, 10*sectorSize), Queue: []impl.Write{write(-1, filled(0))}},
		"a write that is short":  {Bytes: make([]byte, 10*sectorSize), Queue: []impl.Write{write(3, filled(0)[1:])}},
		"one write of two wrong": {Bytes: make([]byte, 10*sectorSize), Queue: []impl.Write{write(3, filled(0)), write(11, filled(0))}},
	} {
		s, code := checkStoreOpen(t, d)
		checkRefused(t, what, s, code, impl.Store{}, storeBad)
	}
}

func TestStoreByExample(t *testing.T) {
	s := newStore(t, 5)
	log := func(area, next, epoch int) impl.Log {
		return impl.Log{First: 2 + 5*area, Last: 6 + 5*area, Next: next, Epoch: epoch}
	}
	s, code := impl.Put(s, 9, point(1, 2))
	checkIs(t, "put", s, log(0, 0, 1), 0, 0, nil, put(9, point(1, 2)))
	s, _ = impl.Put(s, 4, line(0, 0, 5, 5))
	checkIs(t, "put twice", s, log(0, 0, 1), 0, 0, nil, put(9, point(1, 2)), put(4, line(0, 0, 5, 5)))
	if m := impl.Visible(s); code != 0 || !sameEntries(m, []impl.Entry{entry(4, line(0, 0, 5, 5)), entry(9, point(1, 2))}) || !bytes.Equal(s.Disk.Bytes, make([]byte, 12*sectorSize)) {
		t.Error("the Draft is seen, and not written:", m)
	}
	s, code = impl.Commit(s)
	both := []impl.Entry{entry(4, line(0, 0, 5, 5)), entry(9, point(1, 2))}
	// 1 and 28 and 7 + 9 + 32 bytes: two pieces.
	checkIs(t, "committed", s, log(0, 2, 2), 0, 0, both)
	s, _ = impl.Drop(s, 4)
	s, _ = impl.Put(s, 9, point(3, 3))
	s, _ = impl.Drop(s, 9)
	checkIs(t, "drops", s, log(0, 2, 2), 0, 0, both, drop(4), put(9, point(3, 3)), drop(9))
	if m := impl.Visible(s); code != 0 || len(m) != 0 {
		t.Error("all dropped:", m)
	}
	aborted := impl.Abort(s)
	checkIs(t, "aborted", aborted, log(0, 2, 2), 0, 0, both)
	if again, code := impl.Open(s.Disk); code != 0 || !sameStore(again, aborted) {
		t.Error("opened anew, without the Draft:", code, shortStore(again))
	}
	kept, code := impl.Compact(s)
	checkIs(t, "compacted", kept, log(1, 2, 2), 1, 1, both, drop(4), put(9, point(3, 3)), drop(9))
	if code != 0 || !bytes.Equal(kept.Disk.Bytes[:sectorSize], headSector(1, 1)) || !bytes.Equal(kept.Disk.Bytes[sectorSize:7*sectorSize], s.Disk.Bytes[sectorSize:7*sectorSize]) {
		t.Error("the head of turn 1:", code)
	}
	s, code = impl.Commit(kept)
	checkIs(t, "dropped", s, log(1, 3, 3), 1, 1, nil)
	s, _ = impl.Put(s, 1, point(8, 8))
	s, _ = impl.Commit(s)
	s, code = impl.Compact(s)
	checkIs(t, "compacted back", s, log(0, 1, 3), 0, 2, dots(8, 8, 1))
	if code != 0 || !bytes.Equal(s.Disk.Bytes[sectorSize:2*sectorSize], headSector(0, 2)) || !bytes.Equal(s.Disk.Bytes[:sectorSize], headSector(1, 1)) {
		t.Error("the head of turn 2:", code)
	}
	if again, code := impl.Open(s.Disk); code != 0 || !sameStore(again, s) {
		t.Error("opened anew:", code, shortStore(again))
	}
}

// One transaction behind the other, some of them aborted, opened anew or not.
func TestTransactionsOneBehindTheOther(t *testing.T) {
	for _, anew := range []bool{false, true} {
		s := newStore(t, mostArea)
		var want []impl.Entry
		for i, one := range shapesOfEachKind() {
			id := 100 - i
			s = committed(t, s, put(id, one), put(i+1, point(i, i)))
			want, _ = wantApply(want, []impl.Change{put(id, one), put(i+1, point(i, i))})
			s = checkAbort(t, drafting(t, s, drop(id), put(500, one)))
			if i%3 == 2 {
				s = committed(t, s, drop(id), drop(i), put(id+100, one))
				want, _ = wantApply(want, []impl.Change{drop(id), drop(i), put(id+100, one)})
			}
			if anew {
				s = openedStore(t, s.Disk)
			}
			if !sameEntries(s.Map, want) || len(s.Draft) != 0 {
				t.Fatalf("the map of %s, not %s", shortStore(s), shortList(want))
			}
		}
	}
}

func TestCompactionsWithCommitsBetween(t *testing.T) {
	for _, h := range []int{leastArea, 5, 30} {
		s := newStore(t, h)
		for i := range 12 {
			at := 1 - i%2
			s = committed(t, s, put(7, point(i, i)))
			if i%4 == 3 {
				s = committed(t, s, put(8, point(1, 1)))
			}
			before := s
			s = compacted(t, drafting(t, s, put(9, point(i, 3))))
			first := 2 + h*at
			if s.Area != at || s.Turn != i+1 || s.Log.First != first || s.Log.Last != first+h-1 || !sameEntries(s.Map, before.Map) || !sameChanges(s.Draft, []impl.Change{put(9, point(i, 3))}) {
				t.Fatalf("compacted: %s", shortStore(s))
			}
			if got := s.Disk.Bytes[i%2*sectorSize:][:sectorSize]; !bytes.Equal(got, headSector(byte(at), uint32(i+1))) {
				t.Fatalf("the head of turn %d: %x", i+1, got)
			}
			s = checkAbort(t, s)
		}
		if !sameEntries(s.Map, []impl.Entry{entry(7, point(11, 11)), entry(8, point(1, 1))}) {
			t.Error("behind all compactions:", shortStore(s))
		}
	}
}

func TestRightAndWrongIdsOfStores(t *testing.T) {
	empty := newStore(t, 20)
	some := drafting(t, committed(t, empty, put(1, point(1, 1)), put(mostId, point(2, 2)), put(30, point(3, 3))), put(40, point(4, 4)), drop(30))
	for _, s := range []impl.Store{empty, some} {
		for _, id := range rightIds() {
			got, code := checkPutIn(t, s, id, point(5, 6))
			if code != storeGood || !sameChanges(got.Draft, append(slices.Clone(s.Draft), put(id, point(5, 6)))) || !sameEntries(got.Map, s.Map) {
				t.Error("a right Id:", id, code, shortStore(got))
			}
			_, there := wantFind(wantVisible(s), id)
			got, code = checkDropIn(t, s, id)
			if !there {
				checkRefused(t, "dropped what is not there", got, code, s, storeNone)
			} else if code != storeGood || !sameChanges(got.Draft, append(slices.Clone(s.Draft), drop(id))) {
				t.Error("a right Id, dropped:", id, code, shortStore(got))
			}
			committed(t, s, put(id, point(5, 6)), drop(id), put(id, point(7, 7)))
		}
		for _, id := range append(wrongIds(), 0, mostId+1) {
			got, code := checkPutIn(t, s, id, point(5, 6))
			checkRefused(t, fmt.Sprint("put ", id), got, code, s, storeNone)
			got, code = checkDropIn(t, s, id)
			checkRefused(t, fmt.Sprint("drop ", id), got, code, s, storeNone)
		}
	}
	for id, there := range map[int]bool{1: true, mostId: true, 40: true, 30: false, 2: false, 999999: false} {
		if _, code := checkDropIn(t, some, id); (code == storeGood) != there {
			t.Error("the map behind the Draft:", id, code)
		}
	}
}

func TestShapesOfStores(t *testing.T) {
	s := drafting(t, committed(t, newStore(t, mostArea), put(5, point(1, 1))), put(6, point(2, 2)))
	for what, one := range goodShapes() {
		got, code := checkPutIn(t, s, 7, one)
		if code != storeGood || !sameChanges(got.Draft, []impl.Change{put(6, point(2, 2)), put(7, one)}) {
			t.Error(what, code, shortStore(got))
		}
		size := len(wantPutChanges(got.Draft))
		done, code := checkCommit(t, got)
		if (code == storeGood) != (size <= mostRecord) {
			t.Error(what, "is committed:", code, size)
		}
		if code == storeGood {
			compacted(t, done)
		}
	}
	for what, one := range wrongShapes() {
		got, code := checkPutIn(t, s, 7, one)
		checkRefused(t, what, got, code, s, storeNone)
	}
	for i, one := range spoiltShapes() {
		if i%7 == 0 {
			got, code := checkPutIn(t, s, 7, one)
			checkRefused(t, "a spoilt shape", got, code, s, storeNone)
		}
	}
}

func TestDraftsOfAsManyChangesAsMayBe(t *testing.T) {
	s := committed(t, newStore(t, 60), put(500, point(1, 1)))
	for _, draft := range [][]impl.Change{
		dotPuts(1, mostChanges),
		append(dotPuts(1, mostChanges-1), drop(500)),
		slices.Repeat([]impl.Change{put(7, point(1, 2))}, mostChanges),
		slices.Repeat([]impl.Change{put(500, point(1, 2)), drop(500)}, mostChanges/2),
	} {
		full := drafting(t, s, draft...)
		if len(full.Draft) != mostChanges {
			t.Fatal("the Draft:", len(full.Draft))
		}
		got, code := checkPutIn(t, full, 99, point(1, 1))
		checkRefused(t, "one put more", got, code, full, storeMany)
		if m := checkVisible(t, full); len(m) > 0 {
			got, code = checkDropIn(t, full, m[0].Id)
			checkRefused(t, "one drop more", got, code, full, storeMany)
		}
		// What can not be a change is told ahead of that there is no room for it.
		for _, id := range []int{0, mostId + 1, math.MinInt} {
			got, code = checkPutIn(t, full, id, point(1, 1))
			checkRefused(t, "a wrong Id", got, code, full, storeNone)
			got, code = checkDropIn(t, full, id)
			checkRefused(t, "a wrong Id", got, code, full, storeNone)
		}
		got, code = checkPutIn(t, full, 99, line(0, 0))
		checkRefused(t, "a wrong shape", got, code, full, storeNone)
		got, code = checkDropIn(t, full, 999)
		checkRefused(t, "no such Id", got, code, full, storeNone)
		compacted(t, committed(t, full))
	}
}

// What Visible tells hangs on the map and the Draft alone.
func TestVisible(t *testing.T) {
	full := fullMap()
	for what, c := range map[string]struct {
		m     []impl.Entry
		draft []impl.Change
		want  []impl.Entry
	}{
		"neither":                     {nil, nil, nil},
		"no Draft":                    {dots(1, 2, 3, 4), nil, dots(1, 2, 3, 4)},
		"no map":                      {nil, []impl.Change{put(4, point(1, 2)), put(3, point(1, 2))}, dots(1, 2, 3, 4)},
		"both":                        {dots(1, 2, 3, 4), []impl.Change{put(5, point(1, 2)), drop(3)}, dots(1, 2, 4, 5)},
		"put anew":                    {dots(1, 2, 3), []impl.Change{put(3, point(2, 1))}, dots(2, 1, 3)},
		"dropped, and put":            {dots(1, 2, 3), []impl.Change{drop(3), put(3, point(2, 1))}, dots(2, 1, 3)},
		"put, and dropped":            {dots(1, 2, 3), []impl.Change{put(4, point(1, 2)), drop(4)}, dots(1, 2, 3)},
		"a drop of what is not there": {dots(1, 2, 3), []impl.Change{drop(4)}, dots(1, 2, 3)},
		"up to 500":                   {full[1:], []impl.Change{put(1, point(1, 2))}, full},
		"500 stay":                    {full, []impl.Change{put(1, point(1, 2)), drop(2)}, full},
		"501":                         {full, []impl.Change{drop(2), put(2, point(1, 2))}, full},
		"501, and then 500":           {full, []impl.Change{put(2, point(1, 2)), drop(1)}, full},
		"501 behind others":           {full, []impl.Change{put(1, point(5, 5)), drop(3), put(2, point(1, 2)), put(3, point(1, 2))}, full},
		"500 behind one fewer":        {full, []impl.Change{drop(1), put(2, point(1, 2)), drop(2), put(1, point(1, 2))}, full},
		"a change that is none":       {dots(1, 2, 3), []impl.Change{put(4, point(1, 2)), put(0, point(1, 2))}, dots(1, 2, 3)},
		"a shape that is not good":    {dots(1, 2, 3), []impl.Change{drop(3), put(4, line(0, 0))}, dots(1, 2, 3)},
		"what is no map":              {dots(1, 2, 3, 3), []impl.Change{put(4, point(1, 2))}, dots(1, 2, 3, 3)},
	} {
		s := impl.Store{Map: c.m, Draft: c.draft}
		if got := checkVisible(t, s); !sameEntries(got, c.want) {
			t.Errorf("%s: %s, not %s", what, shortList(got), shortList(c.want))
		}
		// No disk has a map of so many, so to the others it is no store.
		checkAllOf(t, s)
	}
	s := drafting(t, committed(t, newStore(t, 9), put(3, point(1, 2))), put(2, point(1, 2)), drop(3), put(3, point(4, 4)))
	if m := checkVisible(t, s); !sameEntries(m, []impl.Entry{entry(2, point(1, 2)), entry(3, point(4, 4))}) {
		t.Error("of a store:", m)
	}
}

// As many Entries as the greatest area has room for are far from 500, so there is no store whose Draft would make more.
func TestAsManyEntriesAsAnAreaTakes(t *testing.T) {
	s := newStore(t, mostArea)
	for i := 0; ; i++ {
		full := drafting(t, s, dotPuts(1+40*i, mostChanges)...)
		next, code := checkCommit(t, full)
		if code != storeGood {
			checkRefused(t, "no room", next, code, withoutDraft(full), storeFull)
			break
		}
		s = next
	}
	if len(s.Map) != 280 || impl.LogRoom(s.Log) != 199-7*26 {
		t.Error("7 records of 26 pieces:", len(s.Map), s.Log)
	}
	s = compacted(t, s)
	if len(s.Map) != 280 || impl.LogRoom(s.Log) != 199-7*26 {
		t.Error("7 rows of 26 pieces:", len(s.Map), s.Log)
	}
}

// Four long lines, one of four points and three drops are as many bytes as a record may have; with a longer line in their place there is one more.
func TestDraftsAtTheGreatestRecord(t *testing.T) {
	base := committed(t, newStore(t, mostArea), put(91, point(1, 1)), put(92, point(1, 1)), put(93, point(1, 1)))
	var four []impl.Change
	for i := range 4 {
		four = append(four, put(10+i, longLine(60)))
	}
	for _, c := range []struct {
		what string
		rest []impl.Change
		size int
	}{
		{"one fewer", []impl.Change{put(20, points(1, 1, 2, 2, 3, 3)), drop(91), drop(92), drop(93)}, mostRecord - 1},
		{"just as many", []impl.Change{put(20, longLine(4)), drop(91), drop(92), drop(93)}, mostRecord},
		{"one more", []impl.Change{put(20, longLine(5))}, mostRecord + 1},
		{"many more", []impl.Change{put(20, longLine(60)), put(21, longLine(60))}, 5857},
	} {
		s := drafting(t, base, append(slices.Clone(four), c.rest...)...)
		if size := len(wantPutChanges(s.Draft)); size != c.size {
			t.Fatal("the test itself is wrong:", c.what, size)
		}
		got, code := checkCommit(t, s)
		if c.size > mostRecord {
			checkRefused(t, c.what, got, code, withoutDraft(s), storeFull)
			// Nothing of it is left behind: what has fewer bytes goes.
			committed(t, got, four...)
			continue
		}
		if code != storeGood || got.Log.Next != base.Log.Next+pieces(c.size) || !sameEntries(got.Map, wantVisible(s)) {
			t.Error(c.what, code, shortStore(got))
		}
		compacted(t, got)
	}
}

// ofPieces are changes whose record has so many pieces, with the fewest or the most bytes that such changes have.
func ofPieces(n int) []impl.Change {
	list := []impl.Change{put(50, point(n, n))}
	for pieces(len(wantPutChanges(list))) < n {
		list = append(list, put(50+len(list), point(n, n)))
	}
	return list
}

func TestRoomForJustTheDraft(t *testing.T) {
	for n := 1; n <= 12; n++ {
		draft := ofPieces(n)
		if got := pieces(len(wantPutChanges(draft))); got != n {
			t.Fatal("the test itself is wrong:", n, got)
		}
		for _, ahead := range []int{0, 1, 3} {
			for left := max(n-2, leastArea-ahead, 0); left <= n+2; left++ {
				if left+ahead < leastArea {
					continue
				}
				s := newStore(t, ahead+left)
				for i := range ahead {
					s = committed(t, s, put(1+i, point(i, i)))
				}
				s = drafting(t, s, draft...)
				got, code := checkCommit(t, s)
				if left < n {
					checkRefused(t, fmt.Sprint("pieces: ", n, " room: ", left), got, code, withoutDraft(s), storeFull)
					continue
				}
				if code != storeGood || impl.LogRoom(got.Log) != left-n || len(got.Map) != ahead+len(draft) {
					t.Error("pieces:", n, "room:", left, code, shortStore(got))
				}
			}
		}
	}
}

func TestNothingToCommit(t *testing.T) {
	for _, s := range []impl.Store{newStore(t, 4), committed(t, newStore(t, 4), put(1, point(1, 1))), compacted(t, committed(t, newStore(t, 4), put(1, point(1, 1))))} {
		got, code := checkCommit(t, s)
		checkRefused(t, "an empty Draft", got, code, s, storeGood)
		got, code = checkCommit(t, checkAbort(t, drafting(t, s, put(5, point(1, 1)))))
		checkRefused(t, "an aborted one", got, code, s, storeGood)
	}
	// Even where there is no room at all.
	full := newStore(t, 4)
	for i := range 4 {
		full = committed(t, full, put(1, point(i, i)))
	}
	got, code := checkCommit(t, full)
	checkRefused(t, "no room", got, code, full, storeGood)
	// A queue is not done for it.
	queued := openedStore(t, impl.Disk{Bytes: full.Disk.Bytes, Queue: []impl.Write{write(9, filled(1))}})
	got, code = checkCommit(t, queued)
	checkRefused(t, "a queue", got, code, queued, storeGood)
}

func TestEmptyMapsCompacted(t *testing.T) {
	fresh := newStore(t, 4)
	emptied := committed(t, committed(t, fresh, put(1, point(1, 1))), drop(1))
	for what, s := range map[string]impl.Store{"new": fresh, "emptied": emptied} {
		got := compacted(t, s)
		checkIs(t, what, got, impl.Log{First: 6, Last: 9, Next: 1, Epoch: 2}, 1, 1, nil)
		if sector := got.Disk.Bytes[6*sectorSize:][:sectorSize]; !bytes.Equal(sector, endPiece(1, 0, "\x00")) {
			t.Errorf("%s: a record of no changes: %x", what, sector)
		}
		for range 3 {
			got = compacted(t, got)
		}
		checkIs(t, what, got, impl.Log{First: 2, Last: 5, Next: 1, Epoch: got.Log.Epoch}, 0, 4, nil)
	}
}

// noHeads are sectors that are none, some of them log sectors.
func noHeads() map[string][]byte {
	list := map[string][]byte{
		"noughts":                 make([]byte, sectorSize),
		"a piece of no byte":      endPiece(1, 5, ""),
		"a piece of two":          endPiece(1, 5, "\x00\x00"),
		"of two, 0 and 1":         endPiece(1, 5, "\x00\x01"),
		"of two, 1 and 0":         endPiece(1, 5, "\x01\x00"),
		"of two, 1 and 1":         endPiece(1, 5, "\x01\x01"),
		"a full piece, last":      endPiece(1, 5, strings.Repeat("\x01", pieceSize)),
		"the byte 2":              endPiece(1, 5, "\x02"),
		"the byte 3":              endPiece(1, 5, "\x03"),
		"the byte 48":             endPiece(1, 5, "0"),
		"the byte 49":             endPiece(1, 5, "1"),
		"the byte 128":            endPiece(1, 5, "\x80"),
		"the byte 129":            endPiece(1, 5, "\x81"),
		"the byte 255":            endPiece(1, 5, "\xff"),
		"more, of noughts":        fullPiece(1, 5, 0),
		"more, of ones":           fullPiece(1, 5, 1),
		"more, 1 and noughts":     logPiece{1, 5, more, append([]byte{1}, make([]byte, pieceSize-1)...)}.sector(),
		"more, of one byte":       logPiece{1, 5, more, []byte{1}}.sector(),
		"epoch 2":                 endPiece(2, 5, "\x01"),
		"epoch 0":                 endPiece(0, 5, "\x01"),
		"epoch 257":               endPiece(257, 5, "\x01"),
		"the greatest epoch":      endPiece(mostEpoch, 5, "\x01"),
		"an epoch too great":      endPiece(mostEpoch+1, 5, "\x01"),
		"turn and epoch changed":  endPiece(5, 1, "\x01"),
		"turn 0":                  endPiece(1, 0, "\x01"),
		"turn 0, area 0":          endPiece(1, 0, "\x00"),
		"a turn too great":        endPiece(1, mostEpoch+1, "\x01"),
		"a turn far too great":    endPiece(1, 1<<31, "\x01"),
		"a turn like -1":          endPiece(1, 1<<32-1, "\x01"),
		"a turn like the least":   endPiece(1, 1<<24+1, "\x01"),
		"the turn of two bytes":   endPiece(1, 1<<31+5, "\x01"),
		"a head, its sum is not":  append(slices.Clone(headSector(1, 5)[:60]), 1, 2, 3, 4),
		"a head with a nought on": summed(append(slices.Clone(headSector(1, 5)[:59]), 1, 0, 0, 0, 0)),
		"a head, backward":        backwardBytes(headSector(1, 5)),
	}
	for what, sector := range spoiltPieces(1, 5) {
		if !strings.Contains(what, "sum is not right") {
			list["spoilt: "+what] = sector
		}
	}
	return list
}

func backwardBytes(b []byte) []byte {
	out := slices.Clone(b)
	slices.Reverse(out)
	return out
}

// twoAreas is a disk with another map in each area, and these two sectors as heads.
func twoAreas(heads ...[]byte) impl.Disk {
	d := impl.DiskNew(12)
	for at, sector := range heads {
		copy(d.Bytes[at*sectorSize:], sector)
	}
	for area, id := range []int{70, 71} {
		record := wantPutChanges([]impl.Change{put(id, point(id, id))})
		copy(d.Bytes[(2+5*area)*sectorSize:], endPiece(3, 0, string(record)))
	}
	return d
}

// checkForce: this area is in force, at this turn, and a Compact writes the next head into this sector.
func checkForce(t *testing.T, what string, d impl.Disk, area, turn, next int) {
	t.Helper()
	s := openedStore(t, d)
	checkIs(t, what, s, impl.Log{First: 2 + 5*area, Last: 6 + 5*area, Next: 1, Epoch: 4}, area, turn, dots(70+area, 70+area, 70+area))
	checkAllOf(t, s)
	if turn == mostEpoch {
		return
	}
	got := compacted(t, s)
	checkIs(t, what, got, impl.Log{First: 7 - 5*area, Last: 11 - 5*area, Next: 1, Epoch: 5}, 1-area, turn+1, s.Map)
	for at := range 2 {
		want := d.Bytes[at*sectorSize:][:sectorSize]
		if at == next {
			want = headSector(byte(1-area), uint32(turn+1))
		}
		if sector := got.Disk.Bytes[at*sectorSize:][:sectorSize]; !bytes.Equal(sector, want) {
			t.Errorf("%s: sector %d is %x behind a Compact, not %x", what, at, sector, want)
		}
	}
	if own := s.Disk.Bytes[(2+5*area)*sectorSize:][:5*sectorSize]; !bytes.Equal(got.Disk.Bytes[(2+5*area)*sectorSize:][:5*sectorSize], own) {
		t.Errorf("%s: a Compact writes into its own area", what)
	}
}

func TestWhichHeadIsInForce(t *testing.T) {
	none := make([]byte, sectorSize)
	checkForce(t, "none", twoAreas(none, none), 0, 0, 0)
	for _, turn := range []uint32{1, 2, 255, 256, 65536, mostEpoch - 1, mostEpoch} {
		for area := range byte(2) {
			checkForce(t, "alone in sector 0", twoAreas(headSector(area, turn), none), int(area), int(turn), 1)
			checkForce(t, "alone in sector 1", twoAreas(none, headSector(area, turn)), int(area), int(turn), 0)
			checkForce(t, "both alike", twoAreas(headSector(area, turn), headSector(area, turn)), int(area), int(turn), 1)
			checkForce(t, "the same turn, areas apart", twoAreas(headSector(area, turn), headSector(1-area, turn)), int(area), int(turn), 1)
			for _, less := range []uint32{1, turn / 2, turn - 1} {
				if less == 0 || less == turn {
					continue
				}
				for other := range byte(2) {
					checkForce(t, "the greater in sector 0", twoAreas(headSector(area, turn), headSector(other, less)), int(area), int(turn), 1)
					checkForce(t, "the greater in sector 1", twoAreas(headSector(other, less), headSector(area, turn)), int(area), int(turn), 0)
				}
			}
		}
	}
}

func TestSectorsThatAreNoHeads(t *testing.T) {
	none := make([]byte, sectorSize)
	for what, sector := range noHeads() {
		checkForce(t, what+", in sector 0", twoAreas(sector, none), 0, 0, 0)
		checkForce(t, what+", in sector 1", twoAreas(none, sector), 0, 0, 0)
		checkForce(t, what+", in both", twoAreas(sector, sector), 0, 0, 0)
		for area := range byte(2) {
			checkForce(t, what+", a head in sector 1", twoAreas(sector, headSector(area, 2)), int(area), 2, 0)
			checkForce(t, what+", a head in sector 0", twoAreas(headSector(area, 2), sector), int(area), 2, 1)
		}
	}
}

// Each byte of a head in each value, its sum as it was or made anew.
func TestEachByteOfAHead(t *testing.T) {
	for at := range sectorSize {
		for b := range 256 {
			sector := headSector(1, 5)
			sector[at] = byte(b)
			checkStoreOpen(t, twoAreas(sector, headSector(0, 3)))
			if at < 60 {
				checkStoreOpen(t, twoAreas(headSector(0, 3), summed(sector)))
				checkStoreOpen(t, twoAreas(summed(sector), make([]byte, sectorSize)))
			}
		}
	}
}

func TestTheLastTurns(t *testing.T) {
	none := make([]byte, sectorSize)
	for area := range 2 {
		d := twoAreas(none, headSector(byte(area), mostEpoch-1))
		s := compacted(t, drafting(t, openedStore(t, d), put(5, point(5, 5))))
		checkIs(t, "the last turn", s, impl.Log{First: 7 - 5*area, Last: 11 - 5*area, Next: 1, Epoch: 5}, 1-area, mostEpoch, dots(70+area, 70+area, 70+area), put(5, point(5, 5)))
		got, code := checkCompact(t, s)
		checkRefused(t, "behind the last turn", got, code, s, storeFull)
		// Else it goes on.
		s = committed(t, s)
		s = committed(t, s, drop(5), put(6, point(1, 1)))
		got, code = checkCompact(t, s)
		checkRefused(t, "behind the last turn", got, code, s, storeFull)
	}
}

// laidLog lays records from a sector on, each with an epoch of its own, one above the other, or all with the same one.
func laidLog(d impl.Disk, from, epoch, by int, records ...[]byte) impl.Disk {
	l := impl.Log{First: from, Last: len(d.Bytes)/sectorSize - 1, Epoch: epoch}
	for _, one := range records {
		number := l.Next
		for i, part := range slices.Collect(slices.Chunk(append(slices.Clone(one), 0), pieceSize)) {
			// The byte more keeps Chunk from leaving out what has no bytes: it is no part of the record.
			size := min(len(part), len(one)-i*pieceSize)
			if size == 0 && i > 0 {
				continue
			}
			p := logPiece{uint32(l.Epoch), uint32(number), last, one[i*pieceSize:][:size]}
			if (i+1)*pieceSize < len(one) {
				p.mark = more
			}
			copy(d.Bytes[(from+number)*sectorSize:], p.sector())
			number++
		}
		l.Next = number
		l.Epoch += by
	}
	return d
}

// badRecords are no changes, each for a reason of its own.
func badRecords() map[string][]byte {
	good := wantPutChanges([]impl.Change{put(3, line(0, 0, 5, 5)), drop(9)})
	list := map[string][]byte{
		"no bytes":            nil,
		"a count alone":       {1},
		"a count too great":   append([]byte{3}, good[1:]...),
		"a count too small":   append([]byte{1}, good[1:]...),
		"a byte behind":       append(slices.Clone(good), 0),
		"cut by one":          good[:len(good)-1],
		"no changes and more": {0, 0},
		"41 drops":            append([]byte{41}, bytes.Repeat([]byte{2, 1, 0, 0, 0}, 41)...),
		"Id 0":                append([]byte{1}, changeBytes(2, 0, nil)...),
		"an Id too great":     append([]byte{1}, changeBytes(2, mostId+1, nil)...),
		"no kind":             append([]byte{1}, changeBytes(3, 5, nil)...),
		"a wrong shape":       append([]byte{1}, changeBytes(1, 5, inOrders(line(0, 0, 0, 0), 1).bytes)...),
		"the other order":     append([]byte{1}, changeBytes(1, 5, inOrders(point(1, 1), 0).bytes)...),
		"bytes by chance":     record(130, 77),
		"44 bytes of nothing": make([]byte, pieceSize),
	}
	for what, one := range list {
		if _, ok := wantGetChanges(one); ok {
			panic("changes after all: " + what)
		}
	}
	return list
}

func TestRecordsThatDoNotCount(t *testing.T) {
	changes := [][]impl.Change{
		{put(1, point(1, 1)), put(2, longLine(7))},
		{drop(2), put(3, point(3, 3))},
		nil,
		{put(1, area(square(0, 0, 9), hole(2, 2, 3)))},
	}
	for what, bad := range inOrder(badRecords()) {
		for area := range 2 {
			for _, by := range []int{0, 1} {
				for at := range len(changes) + 1 {
					var records [][]byte
					var want []impl.Entry
					next := 0
					for i, list := range changes {
						if i == at {
							records = append(records, bad)
						}
						records = append(records, wantPutChanges(list))
						if i < at {
							want, _ = wantApply(want, list)
							next += pieces(len(records[i]))
						}
					}
					if at == len(changes) {
						records = append(records, bad)
					}
					d := impl.DiskNew(2*40 + 2)
					copy(d.Bytes, headSector(byte(area), 1))
					d = laidLog(d, 2+40*area, 2, by, records...)
					s := openedStore(t, d)
					epoch := 3 + by*(len(records)-1)
					checkIs(t, fmt.Sprint(what, ", at ", at), s, impl.Log{First: 2 + 40*area, Last: 41 + 40*area, Next: next, Epoch: epoch}, area, 1, want)
					checkGoesOnBehind(t, what, s)
				}
			}
		}
	}
}

// checkGoesOnBehind: what is committed behind records that do not count is there, and nothing of them.
func checkGoesOnBehind(t *testing.T, what string, s impl.Store) {
	t.Helper()
	small := committed(t, s, put(8, point(8, 8)))
	long := committed(t, s, put(8, point(8, 8)), put(9, longLine(12)))
	for _, next := range []impl.Store{small, long, committed(t, small, drop(8)), compacted(t, s), committed(t, compacted(t, s), put(8, point(8, 8)))} {
		again := openedStore(t, next.Disk)
		if !sameStore(again, next) || len(again.Map) > len(s.Map)+2 {
			t.Fatalf("%s: behind it is committed %s, opened anew %s", what, shortStore(next), shortStore(again))
		}
	}
}

// A disk may have a record with an empty piece at its end, which its bytes do not tell.
func TestRecordsWithMorePiecesThanTheyNeed(t *testing.T) {
	record := wantPutChanges([]impl.Change{put(1, point(1, 1)), drop(2), drop(3), drop(4)})
	if len(record) != pieceSize {
		t.Fatal("the test itself is wrong:", len(record))
	}
	for _, bad := range [][]byte{nil, {1}} {
		d := impl.DiskNew(20)
		copy(d.Bytes[2*sectorSize:], logPiece{1, 0, more, record}.sector())
		copy(d.Bytes[3*sectorSize:], endPiece(1, 1, ""))
		checkIs(t, "two pieces", openedStore(t, d), impl.Log{First: 2, Last: 10, Next: 2, Epoch: 2}, 0, 0, dots(1, 1, 1))
		copy(d.Bytes[4*sectorSize:], endPiece(1, 2, string(bad)))
		s := openedStore(t, d)
		checkIs(t, "and one that does not count", s, impl.Log{First: 2, Last: 10, Next: 2, Epoch: 2}, 0, 0, dots(1, 1, 1))
		checkGoesOnBehind(t, "two pieces", s)
		checkAllOf(t, s)
		s.Log.Next = 1
		checkAllOf(t, s)
	}
}

// A record that is not ended is none; the store is what stands ahead of it.
func TestRecordsThatAreNotWhole(t *testing.T) {
	whole := wantPutChanges([]impl.Change{put(1, point(1, 1))})
	long := wantPutChanges([]impl.Change{put(2, longLine(9)), put(3, point(2, 2))})
	d := laidLog(impl.DiskNew(30), 2, 1, 1, whole, long)
	for lost := range pieces(len(long)) {
		cut := clonedDisk(d)
		clear(cut.Bytes[(3+lost)*sectorSize:][:sectorSize])
		s := openedStore(t, cut)
		epoch := 3
		if pieces(len(long)) == 1 {
			epoch = 2
		}
		checkIs(t, fmt.Sprint("lost ", lost), s, impl.Log{First: 2, Last: 15, Next: 1, Epoch: epoch}, 0, 0, dots(1, 1, 1))
		checkGoesOnBehind(t, "not whole", s)
	}
}

// Records that no Commit could have made count, too: the limit is one of adding.
func TestRecordsOfTooManyBytes(t *testing.T) {
	great := lines(repeated(8, bow(0, 0, 60))...)
	single := wantPutChanges([]impl.Change{put(4, great)})
	var eight []impl.Change
	for i := range 8 {
		eight = append(eight, put(1+i, longLine(60)))
	}
	for what, c := range map[string]struct {
		record []byte
		m      []impl.Entry
		code   int
		rows   []int
	}{
		"one great shape":   {single, []impl.Entry{entry(4, great)}, storeFull, nil},
		"eight long shapes": {wantPutChanges(eight), wantMapOf(eight), storeGood, []int{89, 89}},
	} {
		if len(c.record) <= mostRecord {
			t.Fatal("the test itself is wrong:", len(c.record))
		}
		s := openedStore(t, laidLog(impl.DiskNew(mostDisk), 2, 1, 1, c.record))
		checkIs(t, what, s, impl.Log{First: 2, Last: 200, Next: pieces(len(c.record)), Epoch: 2}, 0, 0, c.m)
		s = drafting(t, s, put(900, point(1, 1)))
		got, code := checkCompact(t, s)
		if code != c.code {
			t.Error(what, "compacted:", code)
		}
		if code == storeFull {
			checkRefused(t, what, got, code, s, storeFull)
		} else if got.Log.Next != c.rows[0]+c.rows[1] {
			t.Error(what, "compacted:", got.Log)
		}
		next := committed(t, s)
		if len(next.Map) != len(c.m)+1 {
			t.Error(what, "committed:", shortStore(next))
		}
	}
}

func wantMapOf(list []impl.Change) []impl.Entry {
	m, _ := wantApply(nil, list)
	return m
}

func TestEpochsOfStores(t *testing.T) {
	none := make([]byte, sectorSize)
	for area := range 2 {
		for _, at := range []int{0, 1, 2, 4} {
			own, other := 2+5*area+at, 7-5*area+at
			// Whether such a sector belongs or not.
			for _, text := range []string{"x", "\x00"} {
				d := twoAreas(none, headSector(byte(area), 9))
				copy(d.Bytes[own*sectorSize:], endPiece(mostEpoch, uint32(at), text))
				s, code := checkStoreOpen(t, d)
				checkRefused(t, "its log can not be opened", s, code, impl.Store{}, storeBad)

				d = twoAreas(none, headSector(byte(area), 9))
				copy(d.Bytes[other*sectorSize:], endPiece(mostEpoch, uint32(at), text))
				s = drafting(t, openedStore(t, d), put(5, point(1, 1)))
				got, code := checkCompact(t, s)
				checkRefused(t, "the other log can not be opened", got, code, s, storeFull)
				got = committed(t, s)
				checkCompact(t, got)

				// With the greatest epoch nothing is added, as it could not be opened any more.
				d = twoAreas(none, headSector(byte(area), 9))
				copy(d.Bytes[other*sectorSize:], endPiece(mostEpoch-1, uint32(at), text))
				s = drafting(t, openedStore(t, d), put(5, point(1, 1)))
				got, code = checkCompact(t, s)
				checkRefused(t, "the other log would have the greatest epoch", got, code, s, storeFull)

				d = twoAreas(none, headSector(byte(area), 9))
				copy(d.Bytes[own*sectorSize:], endPiece(mostEpoch-1, 77, text))
				s = openedStore(t, d)
				if s.Log.Epoch != mostEpoch {
					t.Error("the greatest epoch:", s.Log)
				}
				s = drafting(t, s, put(5, point(1, 1)))
				got, code = checkCommit(t, s)
				checkRefused(t, "the log would have the greatest epoch", got, code, withoutDraft(s), storeFull)
				// It goes on in the other area.
				committed(t, compacted(t, s))

				d = twoAreas(none, headSector(byte(area), 9))
				copy(d.Bytes[own*sectorSize:], endPiece(mostEpoch-2, 77, text))
				copy(d.Bytes[other*sectorSize:], endPiece(mostEpoch-2, 77, text))
				s = openedStore(t, d)
				s = committed(t, s, put(5, point(1, 1)))
				if s.Log.Epoch != mostEpoch {
					t.Error("the last but one:", s.Log)
				}
				s = compacted(t, s)
				if s.Log.Epoch != mostEpoch {
					t.Error("the last but one, compacted:", s.Log)
				}
				s = drafting(t, s, put(6, point(1, 1)))
				got, code = checkCommit(t, s)
				checkRefused(t, "the greatest epoch", got, code, withoutDraft(s), storeFull)
				got, code = checkCompact(t, s)
				checkRefused(t, "the greatest epoch", got, code, s, storeFull)
			}
		}
	}
	// Heads and what lies in the other area have no say in the epoch.
	d := twoAreas(endPiece(mostEpoch, 5, "\x01"), headSector(1, 1))
	if s := openedStore(t, d); s.Log.Epoch != 4 {
		t.Error("the epoch of a sector beside:", s.Log)
	}
}

// All is read as if the queue were done, and the queue stays until something is written.
func TestStoresWithAQueue(t *testing.T) {
	one := wantPutChanges([]impl.Change{put(1, point(1, 1))})
	other := wantPutChanges([]impl.Change{put(2, point(2, 2))})
	none := make([]byte, sectorSize)
	for what, c := range map[string]struct {
		queue      []impl.Write
		area, turn int
		m          []impl.Entry
	}{
		"a head":                    {[]impl.Write{write(0, headSector(1, 1))}, 1, 1, dots(71, 71, 71)},
		"both heads":                {[]impl.Write{write(0, headSector(1, 1)), write(1, headSector(0, 2))}, 0, 2, dots(70, 70, 70)},
		"a head, and none":          {[]impl.Write{write(0, headSector(1, 1)), write(0, none)}, 0, 0, dots(70, 70, 70)},
		"a head twice":              {[]impl.Write{write(0, headSector(1, 9)), write(0, headSector(1, 3)), write(1, headSector(0, 5))}, 0, 5, dots(70, 70, 70)},
		"a record":                  {[]impl.Write{write(3, endPiece(3, 1, string(one)))}, 0, 0, append(dots(1, 1, 1), dots(70, 70, 70)...)},
		"a record over another":     {[]impl.Write{write(2, endPiece(4, 0, string(other)))}, 0, 0, dots(2, 2, 2)},
		"a record that is lost":     {[]impl.Write{write(2, none)}, 0, 0, nil},
		"a head, and its record":    {[]impl.Write{write(7, endPiece(9, 0, string(other))), write(1, headSector(1, 1))}, 1, 1, dots(2, 2, 2)},
		"sectors that do no matter": {[]impl.Write{write(5, filled(7)), write(11, filled(8)), write(1, filled(9))}, 0, 0, dots(70, 70, 70)},
		"one that does not count":   {[]impl.Write{write(3, endPiece(3, 1, "x")), write(4, endPiece(3, 2, string(one)))}, 0, 0, dots(70, 70, 70)},
	} {
		d := twoAreas(none, none)
		d.Queue = c.queue
		s := openedStore(t, d)
		if s.Area != c.area || s.Turn != c.turn || !sameEntries(s.Map, c.m) || !sameDisk(s.Disk, d) {
			t.Errorf("%s: %s", what, shortStore(s))
		}
		done := openedStore(t, impl.Sync(d))
		if s.Log != done.Log || !sameEntries(s.Map, done.Map) {
			t.Errorf("%s: %s, but behind Sync %s", what, shortStore(s), shortStore(done))
		}
		checkAllOf(t, s)
		s = drafting(t, s, put(5, point(5, 5)))
		if len(s.Disk.Queue) != len(c.queue) {
			t.Errorf("%s: a Draft does the queue", what)
		}
		next, packed := committed(t, s), compacted(t, s)
		if len(next.Disk.Queue)+len(packed.Disk.Queue) != 0 {
			t.Errorf("%s: a queue is left", what)
		}
		checkAllOf(t, next)
		checkAllOf(t, packed)
		if want := committed(t, done, put(5, point(5, 5))); !sameStore(next, want) {
			t.Errorf("%s: committed with a queue %s, behind Sync %s", what, shortStore(next), shortStore(want))
		}
		// A store of the disk behind its queue is none of the disk ahead of it.
		done.Disk.Bytes = d.Bytes
		done.Disk.Queue = nil
		checkAllOf(t, done)
	}
	d := twoAreas(none, none)
	for _, at := range []int{2, 4, 6} {
		d.Queue = []impl.Write{write(at, endPiece(mostEpoch, 0, ""))}
		s, code := checkStoreOpen(t, d)
		checkRefused(t, "the greatest epoch in the queue", s, code, impl.Store{}, storeBad)
	}
}

// wrongStores are made of a right one, each with one thing otherwise.
func wrongStores(s impl.Store) map[string]impl.Store {
	out := map[string]impl.Store{}
	set := func(what string, change func(w *impl.Store)) {
		w := s
		w.Disk, w.Map, w.Draft = clonedDisk(s.Disk), cloneEntries(s.Map), slices.Clone(s.Draft)
		change(&w)
		out[what] = w
	}
	for _, by := range []int{1, -1, 2, 1 << 32, math.MinInt} {
		set(fmt.Sprint("First by ", by), func(w *impl.Store) { w.Log.First += by })
		set(fmt.Sprint("Last by ", by), func(w *impl.Store) { w.Log.Last += by })
		set(fmt.Sprint("Next by ", by), func(w *impl.Store) { w.Log.Next += by })
		set(fmt.Sprint("Epoch by ", by), func(w *impl.Store) { w.Log.Epoch += by })
		set(fmt.Sprint("Area by ", by), func(w *impl.Store) { w.Area += by })
		set(fmt.Sprint("Turn by ", by), func(w *impl.Store) { w.Turn += by })
	}
	set("the other area", func(w *impl.Store) { w.Area = 1 - w.Area })
	set("the other area's log", func(w *impl.Store) {
		from, to := areaOf(w.Disk, 1-w.Area)
		w.Log, _, _ = impl.LogOpen(w.Disk, from, to)
	})
	set("no log", func(w *impl.Store) { w.Log = impl.Log{} })
	set("no disk", func(w *impl.Store) { w.Disk = impl.Disk{} })
	set("a new disk", func(w *impl.Store) { w.Disk = impl.DiskNew(len(w.Disk.Bytes) / sectorSize) })
	set("a byte too few", func(w *impl.Store) { w.Disk.Bytes = w.Disk.Bytes[1:] })
	set("a sector too few", func(w *impl.Store) { w.Disk.Bytes = w.Disk.Bytes[:len(w.Disk.Bytes)-sectorSize] })
	set("two sectors more", func(w *impl.Store) { w.Disk.Bytes = append(w.Disk.Bytes, make([]byte, 2*sectorSize)...) })
	set("a wrong write", func(w *impl.Store) { w.Disk.Queue = append(w.Disk.Queue, write(-1, filled(0))) })
	set("a head in the queue", func(w *impl.Store) {
		w.Disk.Queue = append(w.Disk.Queue, write(0, headSector(byte(w.Area), uint32(w.Turn+1))))
	})
	set("an epoch in the queue", func(w *impl.Store) {
		w.Disk.Queue = append(w.Disk.Queue, write(w.Log.Last, endPiece(uint32(w.Log.Epoch), 1<<30, "")))
	})
	set("a record is lost", func(w *impl.Store) { clear(w.Disk.Bytes[w.Log.First*sectorSize:][:sectorSize]) })
	set("a record more", func(w *impl.Store) {
		one := string(wantPutChanges([]impl.Change{put(3, point(9, 9))}))
		w.Disk.Queue = append(w.Disk.Queue, write(w.Log.First+w.Log.Next, endPiece(uint32(w.Log.Epoch), uint32(w.Log.Next), one)))
	})
	set("no map", func(w *impl.Store) { w.Map = nil })
	set("an Entry too few", func(w *impl.Store) { w.Map = w.Map[1:] })
	set("the last Entry is not there", func(w *impl.Store) { w.Map = w.Map[:len(w.Map)-1] })
	set("an Entry more", func(w *impl.Store) { w.Map = append(w.Map, entry(mostId, point(1, 1))) })
	set("an Entry twice", func(w *impl.Store) { w.Map = append(w.Map, w.Map[len(w.Map)-1]) })
	set("another order", func(w *impl.Store) { slices.Reverse(w.Map) })
	set("500 Entries", func(w *impl.Store) { w.Map = fullMap() })
	set("501 Entries", func(w *impl.Store) { w.Map = dots(1, 2, idsFrom(1, mostEntries+1, 1)...) })
	set("the map behind the Draft", func(w *impl.Store) { w.Map = wantVisible(*w) })
	for _, at := range []int{0, len(s.Map) / 2, len(s.Map) - 1} {
		set(fmt.Sprint("another Id at ", at), func(w *impl.Store) { w.Map[at].Id = mostId - 5 })
		set(fmt.Sprint("a wrong Id at ", at), func(w *impl.Store) { w.Map[at].Id = 0 })
		set(fmt.Sprint("another shape at ", at), func(w *impl.Store) { w.Map[at].Shape = point(55, 55) })
		set(fmt.Sprint("another point at ", at), func(w *impl.Store) { w.Map[at].Shape.Rings[0][0].Y++ })
		set(fmt.Sprint("another kind at ", at), func(w *impl.Store) { w.Map[at].Shape.Kind++ })
		set(fmt.Sprint("no shape at ", at), func(w *impl.Store) { w.Map[at].Shape = impl.Shape{} })
	}
	wrong := map[string]impl.Change{
		"the zero change": {}, "Id 0": put(0, point(1, 1)), "a great Id": drop(mostId + 1), "no kind": {Kind: 3, Id: 5}, "a wrong shape": put(5, line(0, 0)), "a drop with a shape": {Kind: impl.ChangeDrop, Id: 5, Shape: point(1, 1)},
	}
	for what, c := range inOrder(wrong) {
		set(what+", first", func(w *impl.Store) { w.Draft = append([]impl.Change{c}, w.Draft...) })
		set(what+", last", func(w *impl.Store) { w.Draft = append(w.Draft, c) })
		set(what+", in the midst", func(w *impl.Store) { w.Draft = slices.Concat(w.Draft, []impl.Change{c}, dotPuts(1, 3)) })
		set(what+", the 40th", func(w *impl.Store) { w.Draft = append(dotPuts(1, mostChanges-1), c) })
	}
	for _, count := range []int{mostChanges + 1, mostChanges + 2, 200, 600} {
		set(fmt.Sprint("a Draft of ", count), func(w *impl.Store) { w.Draft = dotPuts(1, count) })
		set(fmt.Sprint("a Draft of drops: ", count), func(w *impl.Store) { w.Draft = slices.Repeat([]impl.Change{drop(5)}, count) })
	}
	return out
}

// storesToSpoil have a map and a Draft, in area 0 and 1.
func storesToSpoil(t *testing.T) map[string]impl.Store {
	t.Helper()
	first := committed(t, newStore(t, 30), put(1, point(1, 1)), put(5, longLine(5)), put(9, area(square(0, 0, 9))))
	second := committed(t, compacted(t, first), drop(5), put(6, point(6, 6)))
	queued := openedStore(t, impl.Disk{Bytes: second.Disk.Bytes, Queue: []impl.Write{write(40, filled(3)), write(second.Log.First+second.Log.Next, endPiece(uint32(second.Log.Epoch), uint32(second.Log.Next), "\x00"))}})
	out := map[string]impl.Store{}
	for what, s := range map[string]impl.Store{"area 0": first, "area 1": second, "a queue": queued, "three areas on": compacted(t, compacted(t, second))} {
		out[what] = s
		out[what+", with a Draft"] = drafting(t, s, put(7, point(7, 7)), drop(1), put(1, point(2, 2)))
	}
	return out
}

func TestWrongStores(t *testing.T) {
	for of, s := range storesToSpoil(t) {
		checkAllOf(t, s)
		for what, w := range wrongStores(s) {
			if what == "the map behind the Draft" && len(s.Draft) == 0 {
				continue
			}
			what = of + ", " + what
			checkAllOf(t, w)
			got, code := impl.Put(w, 3, point(1, 1))
			checkRefused(t, what+": Put", got, code, w, storeBad)
			// Where several could be told, this comes first.
			got, code = impl.Put(w, 0, impl.Shape{})
			checkRefused(t, what+": Put of nothing", got, code, w, storeBad)
			got, code = impl.Drop(w, 1)
			checkRefused(t, what+": Drop", got, code, w, storeBad)
			got, code = impl.Drop(w, 0)
			checkRefused(t, what+": Drop of nothing", got, code, w, storeBad)
			got, code = impl.Commit(w)
			checkRefused(t, what+": Commit", got, code, w, storeBad)
			got, code = impl.Compact(w)
			checkRefused(t, what+": Compact", got, code, w, storeBad)
			checkRefused(t, what+": Abort", impl.Abort(w), 0, w, 0)
		}
	}
	// The zero one, which Open tells of what it refuses.
	zero := impl.Store{}
	checkAllOf(t, zero)
	for _, code := range []int{codeOf(impl.Put(zero, 1, point(1, 1))), codeOf(impl.Drop(zero, 1)), codeOf(impl.Commit(zero)), codeOf(impl.Compact(zero))} {
		if code != storeBad {
			t.Error("the zero store:", code)
		}
	}
}

func codeOf(_ impl.Store, code int) int { return code }

// Empty lists and none are the same, in a store as elsewhere.
func TestStoresWithEmptyLists(t *testing.T) {
	s := newStore(t, 5)
	s.Map, s.Draft, s.Disk.Queue = []impl.Entry{}, []impl.Change{}, []impl.Write{}
	checkAllOf(t, s)
	if _, code := impl.Compact(s); code != storeGood {
		t.Error("empty lists:", code)
	}
	s = drafting(t, s, put(1, point(1, 1)))
	s.Draft = append(s.Draft, impl.Change{Kind: impl.ChangeDrop, Id: 1, Shape: impl.Shape{Rings: [][]impl.Pt{}}})
	checkAllOf(t, s)
	if got, code := impl.Commit(s); code != storeGood || len(got.Map) != 0 {
		t.Error("a drop with an empty list:", code)
	}
}

// A Draft that Put and Drop would not have made, of changes that are each right.
func TestDraftsThatAreHandedIn(t *testing.T) {
	s := committed(t, newStore(t, 40), put(1, point(1, 1)))
	for what, draft := range map[string][]impl.Change{
		"a drop of what is not there": {drop(5)},
		"only such":                   slices.Repeat([]impl.Change{drop(5)}, mostChanges),
		"dropped twice":               {drop(1), drop(1)},
		"and put":                     {drop(1), drop(1), put(1, point(2, 2))},
	} {
		s.Draft = draft
		checkAllOf(t, s)
		got := committed(t, s)
		if want, _ := wantApply(s.Map, draft); !sameEntries(got.Map, want) {
			t.Error(what, shortStore(got))
		}
		if _, code := checkDropIn(t, s, 5); code != storeNone {
			t.Error(what, code)
		}
	}
}

// rowSizes are how many changes the records of a log have.
func rowSizes(t *testing.T, s impl.Store) []int {
	t.Helper()
	_, records, ok := impl.LogOpen(s.Disk, s.Log.First, s.Log.Last)
	if !ok {
		t.Fatal("no log:", shortStore(s))
	}
	var out []int
	for _, one := range records {
		list, ok := impl.GetChanges(one)
		if !ok {
			t.Fatal("a row that is no changes:", shortBytes(one))
		}
		out = append(out, len(list))
	}
	return out
}

// filledStore has these shapes, from Id 1 on, in records of as many changes as may be, whatever bytes they have.
func filledStore(t *testing.T, h int, shapes ...impl.Shape) impl.Store {
	t.Helper()
	var list []impl.Change
	for i, one := range shapes {
		list = append(list, put(1+i, one))
	}
	var records [][]byte
	for some := range slices.Chunk(list, mostChanges) {
		records = append(records, wantPutChanges(some))
	}
	return openedStore(t, laidLog(impl.DiskNew(2*h+2), 2, 1, 0, records...))
}

func TestRowsOfACompact(t *testing.T) {
	dot, long := point(1, 1), longLine(60)
	for what, c := range map[string]struct {
		shapes []impl.Shape
		rows   []int
	}{
		"one":                             {[]impl.Shape{dot}, []int{1}},
		"one fewer than a row":            {slices.Repeat([]impl.Shape{dot}, 39), []int{39}},
		"just a row":                      {slices.Repeat([]impl.Shape{dot}, 40), []int{40}},
		"a row and one":                   {slices.Repeat([]impl.Shape{dot}, 41), []int{40, 1}},
		"two rows":                        {slices.Repeat([]impl.Shape{dot}, 80), []int{40, 40}},
		"two rows and one":                {slices.Repeat([]impl.Shape{dot}, 81), []int{40, 40, 1}},
		"as many as there is room for":    {slices.Repeat([]impl.Shape{dot}, 280), []int{40, 40, 40, 40, 40, 40, 40}},
		"four long ones":                  {slices.Repeat([]impl.Shape{long}, 4), []int{4}},
		"five long ones":                  {slices.Repeat([]impl.Shape{long}, 5), []int{4, 1}},
		"eight long ones":                 {slices.Repeat([]impl.Shape{long}, 8), []int{4, 4}},
		"just as many bytes":              {bytesOfRow(3999), []int{len(bytesOfRow(3999))}},
		"just as many bytes, and a point": {append(bytesOfRow(3999), dot), []int{len(bytesOfRow(3999)), 1}},
		"one byte more":                   {bytesOfRow(4000), []int{len(bytesOfRow(4000)) - 1, 1}},
		"as many bytes twice":             {append(bytesOfRow(3999), bytesOfRow(3999)...), []int{len(bytesOfRow(3999)), len(bytesOfRow(3999))}},
		"one byte more in the second row": {append(bytesOfRow(3999), bytesOfRow(4000)...), []int{len(bytesOfRow(3999)), len(bytesOfRow(4000)) - 1, 1}},
		"one byte less in the second row": {append(bytesOfRow(3999), bytesOfRow(3998)...), []int{len(bytesOfRow(3999)), len(bytesOfRow(3998))}},
		"a small one would go yet":        {append(slices.Repeat([]impl.Shape{long}, 4), long, dot, dot), []int{4, 3}},
		"small ones ahead":                {slices.Concat(slices.Repeat([]impl.Shape{dot}, 39), slices.Repeat([]impl.Shape{long}, 4)), []int{40, 3}},
		"less small ones ahead":           {slices.Concat(slices.Repeat([]impl.Shape{dot}, 38), slices.Repeat([]impl.Shape{long}, 3)), []int{40, 1}},
		"by bytes, and then by changes":   {slices.Concat(slices.Repeat([]impl.Shape{long}, 4), slices.Repeat([]impl.Shape{dot}, 44)), []int{4 + 3, 40, 1}},
	} {
		s := filledStore(t, mostArea, c.shapes...)
		if len(s.Map) != len(c.shapes) {
			t.Fatal("the test itself is wrong:", what, len(s.Map))
		}
		got := compacted(t, s)
		if rows := rowSizes(t, got); !slices.Equal(rows, c.rows) {
			t.Errorf("%s: rows of %v, not %v", what, rows, c.rows)
		}
		// Compacted once more it is the same, in the first area.
		again := compacted(t, got)
		if rows := rowSizes(t, again); !slices.Equal(rows, c.rows) || again.Log.Next != got.Log.Next {
			t.Errorf("%s: rows of %v then, not %v", what, rows, c.rows)
		}
	}
}

// bytesOfRow are shapes whose changes, as puts, have so many bytes together.
func bytesOfRow(size int) []impl.Shape {
	list := []impl.Shape{longLine(60), longLine(60), longLine(60)}
	left := size - 3*976
	for count := 0; count < 37; count++ {
		// Points have 28 bytes each; points in one shape 16, and 21 each; a line 16, and 16 each.
		for many := 0; many <= 40; many++ {
			rest := left - 28*count - 16 - 21*many
			if many > 0 && rest >= 48 && rest%16 == 0 && rest/16-1 <= 60 {
				for range count {
					list = append(list, point(1, 1))
				}
				return append(list, shape(impl.ShapePoints, bow(0, 0, many)), longLine(rest/16-1))
			}
		}
	}
	panic("no shapes of so many bytes")
}

// tightStores are full to the last sector, and compacted their maps have a piece or more too many; each has a Draft.
func tightStores(t *testing.T) map[string]impl.Store {
	t.Helper()
	d := &dice{153}
	out := map[string]impl.Store{}
	for len(out) < 2 {
		var one, other []impl.Change
		for i := range 10 {
			one = append(one, put(1+2*i, longLine(2+d.below(40))))
			other = append(other, put(2+2*i, longLine(2+d.below(40))))
		}
		what, records := "two records that are mixed", [][]impl.Change{one, other}
		if len(out) == 1 {
			what, records = "one record of too many bytes", [][]impl.Change{slices.Concat(one, other)}
		}
		all := 0
		var bytes [][]byte
		for _, list := range records {
			bytes = append(bytes, wantPutChanges(list))
			all += pieces(len(wantPutChanges(list)))
		}
		if len(out) == 0 && max(len(bytes[0]), len(bytes[1])) > mostRecord || all > mostArea-1 {
			continue
		}
		s := openedStore(t, laidLog(impl.DiskNew(2*all+2), 2, 1, 1, bytes...))
		if impl.LogRoom(s.Log) != 0 || len(s.Map) != 20 {
			t.Fatal("the test itself is wrong:", shortStore(s))
		}
		if needed(s) > all {
			s.Draft = []impl.Change{put(100, point(1, 1)), drop(9)}
			out[what] = s
		}
	}
	return out
}

// needed is how many sectors the rows of a store's map have.
func needed(s impl.Store) int {
	rows, _ := wantRows(wantBetween(nil, s.Map))
	out := 0
	for _, one := range rows {
		out += pieces(len(wantPutChanges(one)))
	}
	return out
}

func TestAnAreaThatCanNotTakeTheMap(t *testing.T) {
	for what, s := range tightStores(t) {
		got, code := checkCompact(t, s)
		checkRefused(t, what, got, code, s, storeFull)
		checkAllOf(t, s)
		got, code = checkCommit(t, s)
		checkRefused(t, what, got, code, withoutDraft(s), storeFull)
		// With so many sectors more in each area there is room, with one fewer there is not.
		h := s.Log.Last - s.Log.First + 1
		for more := 1; h+more <= needed(s); more++ {
			d := impl.DiskNew(2*(h+more) + 2)
			copy(d.Bytes, s.Disk.Bytes[:(h+2)*sectorSize])
			roomy := openedStore(t, d)
			if !sameEntries(roomy.Map, s.Map) {
				t.Fatal("the test itself is wrong:", shortStore(roomy))
			}
			got, code := checkCompact(t, roomy)
			if h+more < needed(s) {
				checkRefused(t, what, got, code, roomy, storeFull)
			} else if code != storeGood || impl.LogRoom(got.Log) != 0 {
				t.Error(what, "with just enough room:", code, got.Log)
			}
		}
	}
}

// Whatever stands in the other area, a Compact begins it anew.
func TestOldRecordsInTheOtherArea(t *testing.T) {
	const h = 30
	d := &dice{146}
	old := map[string]func(other []byte){
		"records": func(other []byte) {
			var list [][]byte
			for i := range 12 {
				list = append(list, wantPutChanges([]impl.Change{put(200+i, longLine(2+i%4))}))
			}
			copy(other, laidLog(impl.DiskNew(h), 0, 5, 1, list...).Bytes)
		},
		"single pieces of one epoch": func(other []byte) {
			for i := range h {
				copy(other[i*sectorSize:], endPiece(900, uint32(i), "\x00"))
			}
		},
		"pieces with more": func(other []byte) {
			for i := range h {
				copy(other[i*sectorSize:], fullPiece(uint32(1+i), uint32(i), 3))
			}
		},
		"bytes by chance": func(other []byte) { copy(other, d.bytes(len(other))) },
		"all bits":        func(other []byte) { copy(other, bytes.Repeat([]byte{255}, len(other))) },
		"its own records": nil,
	}
	for area := range 2 {
		for what, lay := range old {
			disk := impl.DiskNew(2*h + 2)
			copy(disk.Bytes[sectorSize:], headSector(byte(area), 6))
			own := disk.Bytes[(2+h*area)*sectorSize:][:h*sectorSize]
			other := disk.Bytes[(2+h-h*area)*sectorSize:][:h*sectorSize]
			copy(own, laidLog(impl.DiskNew(h), 0, 2, 1, wantPutChanges(dotPuts(1, 9)), wantPutChanges([]impl.Change{drop(3)})).Bytes)
			if lay == nil {
				copy(other, own)
			} else {
				lay(other)
			}
			s := openedStore(t, disk)
			got := compacted(t, s)
			if len(got.Map) != 8 || got.Log.Next != pieces(1+8*28) {
				t.Errorf("%s: %s", what, shortStore(got))
			}
			checkGoesOnBehind(t, what, got)
			back := compacted(t, got)
			if !sameEntries(back.Map, s.Map) || back.Area != s.Area || back.Turn != 8 {
				t.Errorf("%s: compacted back: %s", what, shortStore(back))
			}
		}
	}
}

// cutCommit is the disk behind a crash within the Commit of a store: of its writes these are kept.
func cutCommit(s impl.Store, keep func(i int) bool) impl.Disk {
	writes := impl.LogWrites(s.Log, impl.PutChanges(s.Draft))
	return cutWrites(s.Disk, writes, keep)
}

// cutWrites is the disk behind a crash: its own queue is kept, and these of the writes.
func cutWrites(d impl.Disk, writes []impl.Write, keep func(i int) bool) impl.Disk {
	queue := slices.Concat(d.Queue, writes)
	coins := make([]byte, len(queue)/8+1)
	for i := range queue {
		if i < len(d.Queue) || keep(i-len(d.Queue)) {
			coins[i/8] |= 1 << (i % 8)
		}
	}
	return impl.Crash(impl.Disk{Bytes: d.Bytes, Queue: queue}, coins)
}

// coinsFor are sets of so many writes: all sets of few, and of more those that are most likely to be taken for all.
func coinsFor(count int, d *dice) []func(i int) bool {
	var out []func(i int) bool
	if count <= 7 {
		for set := range 1 << count {
			out = append(out, func(i int) bool { return set>>i&1 == 1 })
		}
		return out
	}
	out = append(out, always, func(int) bool { return false }, func(i int) bool { return i%2 == 0 }, func(i int) bool { return i%2 == 1 })
	for _, n := range []int{0, 1, count / 2, count - 2, count - 1} {
		out = append(out,
			func(i int) bool { return i == n },
			func(i int) bool { return i != n },
			func(i int) bool { return i < n },
			func(i int) bool { return i > n })
	}
	for range 6 {
		coins := d.bytes(count)
		out = append(out, func(i int) bool { return coins[i] < 128 }, func(i int) bool { return coins[i] < 220 })
	}
	return out
}

// storesToCut are stores without a Draft, by what stands on their disk, each with room for 9 sectors and more.
func storesToCut(t *testing.T) map[string]impl.Store {
	t.Helper()
	const h = 24
	out := map[string]impl.Store{}
	fresh := newStore(t, h)
	out["new"] = fresh
	few := committed(t, committed(t, fresh, put(1, point(1, 1)), put(2, longLine(3))), drop(1), put(4, area(square(0, 0, 9))))
	out["two records"] = few
	one := compacted(t, few)
	out["compacted"] = one
	out["compacted, and more"] = committed(t, one, drop(4), put(5, point(5, 5)))
	out["compacted twice"] = compacted(t, out["compacted, and more"])
	long := fresh
	for i := range 20 {
		long = committed(t, long, put(1+i%3, point(i, i)))
	}
	long = compacted(t, compacted(t, compacted(t, compacted(t, long))))
	out["old records behind, in both areas"] = long
	for what, bad := range badRecords() {
		if what == "no bytes" || what == "41 drops" || what == "cut by one" {
			disk := laidLog(impl.DiskNew(2*h+2), 2, 3, 1, wantPutChanges(dotPuts(1, 2)), bad, wantPutChanges(dotPuts(5, 6)), wantPutChanges(nil), wantPutChanges([]impl.Change{drop(1)}))
			out["a record that does not count: "+what] = openedStore(t, disk)
		}
	}
	draft := drafting(t, few, put(8, longLine(18)))
	out["a Commit that was cut"] = openedStore(t, cutCommit(draft, func(i int) bool { return i != 2 }))
	out["a Commit that was cut at its first write"] = openedStore(t, cutCommit(draft, func(i int) bool { return i > 0 }))
	steps, _, _ := wantSteps(long)
	out["a Compact that was cut"] = openedStore(t, cutWrites(long.Disk, steps[0], func(i int) bool { return i == 0 }))
	queued := clonedDisk(one.Disk)
	queued.Queue = []impl.Write{write(one.Log.Last, filled(9)), write(one.Log.First+one.Log.Next, filled(8)), write(3, filled(7))}
	out["a queue"] = openedStore(t, queued)
	chance := clonedDisk(few.Disk)
	copy(chance.Bytes[(few.Log.First+few.Log.Next)*sectorSize:], (&dice{147}).bytes((h-few.Log.Next)*sectorSize))
	out["bytes by chance behind"] = openedStore(t, chance)
	both := clonedDisk(few.Disk)
	copy(both.Bytes, headSector(0, 7))
	copy(both.Bytes[sectorSize:], headSector(0, 7))
	out["both heads alike"] = openedStore(t, both)
	return out
}

// draftsToCut have from one piece to many.
func draftsToCut() [][]impl.Change {
	var out [][]impl.Change
	for n := 1; n <= 6; n++ {
		out = append(out, ofPieces(n))
	}
	return append(out, []impl.Change{put(1, point(9, 9)), drop(1)}, []impl.Change{put(3, longLine(20)), put(1, point(2, 2)), drop(3)})
}

// Behind a crash at any write of a Commit the store opened anew has the map ahead or behind it.
func TestCrashesWithinACommit(t *testing.T) {
	d := &dice{148}
	for what, s := range inOrder(storesToCut(t)) {
		for _, list := range draftsToCut() {
			full := drafting(t, s, list...)
			done, code := checkCommit(t, full)
			if code != storeGood {
				t.Fatal(what, "is not committed:", code)
			}
			count := done.Log.Next - s.Log.Next
			for _, keep := range coinsFor(count, d) {
				again := openedStore(t, cutCommit(full, keep))
				all := true
				for i := range count {
					all = all && keep(i)
				}
				want := s.Map
				if all {
					want = done.Map
				}
				if !sameEntries(again.Map, want) || again.Area != s.Area || again.Turn != s.Turn {
					t.Fatalf("%s: behind the crash %s, not %s", what, shortStore(again), shortList(want))
				}
				checkGoesOnBehind(t, what+", cut", again)
			}
		}
	}
}

// Behind a crash at any write of a Compact it has the same map.
func TestCrashesWithinACompact(t *testing.T) {
	d := &dice{149}
	list := storesToCut(t)
	var many []impl.Shape
	for i := range 60 {
		many = append(many, point(i, i))
	}
	list["two rows by how many"] = filledStore(t, 66, many...)
	list["two rows by bytes"] = filledStore(t, 140, longLine(60), longLine(60), longLine(60), longLine(60), longLine(60))
	list["an empty map"] = newStore(t, 9)
	for what, s := range inOrder(list) {
		s = drafting(t, s, put(77, point(7, 7)))
		steps, _, ok := wantSteps(s)
		done := compacted(t, s)
		if !ok || !sameDisk(done.Disk, wantDone(s.Disk, slices.Concat(steps...))) {
			t.Fatal("the test itself is wrong:", what)
		}
		disk := s.Disk
		for i, writes := range steps {
			for _, keep := range coinsFor(len(writes), d) {
				again := openedStore(t, cutWrites(disk, writes, keep))
				turned := i == len(steps)-1 && keep(0)
				if !sameEntries(again.Map, s.Map) || (again.Turn == s.Turn+1) != turned || (again.Area == 1-s.Area) != turned {
					t.Fatalf("%s: behind the crash %s, not %s", what, shortStore(again), shortList(s.Map))
				}
				checkGoesOnBehind(t, what+", cut", again)
			}
			disk = wantDone(disk, writes)
		}
	}
}

// storeLife is a store beside the map that it must have.
type storeLife struct {
	s    impl.Store
	want []impl.Entry
}

// storeChange is one that a Draft takes, of small shapes and few Ids.
func (d *dice) storeChange(m []impl.Entry) impl.Change {
	if len(m) > 0 && d.below(3) == 0 {
		return drop(m[d.below(len(m))].Id)
	}
	shapes := shapesOfEachKind()
	return put(1+d.below(9), shapes[d.below(len(shapes))])
}

// A long life of a store: what it tells is what was committed, whatever crashes came.
func TestStoresInTheLongRun(t *testing.T) {
	d := &dice{150}
	seen := map[string]int{}
	for range 40 {
		h := leastArea + d.below(40)
		disk := impl.Disk{Bytes: d.bytes((2*h + 2) * sectorSize)}
		if d.below(3) == 0 {
			copy(disk.Bytes, headSector(byte(d.below(2)), uint32(mostEpoch-d.below(4))))
		}
		life := storeLife{s: openedStore(t, disk)}
		for range 60 {
			for range d.below(4) {
				life.s = drafting(t, life.s, d.storeChange(wantVisible(life.s)))
			}
			seen[life.step(t, d)]++
			if !sameEntries(life.s.Map, life.want) {
				t.Fatalf("the map of %s is not %s", shortStore(life.s), shortList(life.want))
			}
		}
	}
	for _, what := range []string{"committed", "refused", "aborted", "compacted", "not compacted", "cut, kept", "cut, lost", "compact cut"} {
		if seen[what] < 10 {
			t.Error("too few of a kind:", what, seen)
		}
	}
}

func (l *storeLife) step(t *testing.T, d *dice) string {
	t.Helper()
	behind, code := wantVisible(l.s), 0
	switch d.below(6) {
	case 0, 1:
		l.s, code = checkCommit(t, l.s)
		if code != storeGood {
			l.s, _ = checkCompact(t, l.s)
			return "refused"
		}
		l.want = behind
		return "committed"
	case 2:
		l.s = checkAbort(t, l.s)
		return "aborted"
	case 3:
		if l.s, code = checkCompact(t, l.s); code != storeGood {
			return "not compacted"
		}
		return "compacted"
	case 4:
		return l.cutCommit(t, d, behind)
	}
	steps, _, ok := wantSteps(l.s)
	if !ok {
		return "not compacted"
	}
	disk, at := l.s.Disk, d.below(len(steps))
	for _, writes := range steps[:at] {
		disk = wantDone(disk, writes)
	}
	l.s = openedStore(t, cutWrites(disk, steps[at], func(int) bool { return d.below(2) == 0 }))
	return "compact cut"
}

func (l *storeLife) cutCommit(t *testing.T, d *dice, behind []impl.Entry) string {
	t.Helper()
	count := len(impl.LogWrites(l.s.Log, impl.PutChanges(l.s.Draft)))
	if len(l.s.Draft) == 0 || count == 0 {
		return "nothing to cut"
	}
	lost := d.below(count + 1)
	l.s = openedStore(t, cutCommit(l.s, func(i int) bool { return i != lost }))
	if lost < count {
		return "cut, lost"
	}
	l.want = behind
	return "cut, kept"
}

// storeDisk is one on which a store may lie, and something else may.
func (d *dice) storeDisk() impl.Disk {
	h := leastArea + d.below(6)
	out := impl.DiskNew(2*h + 2)
	lay := func(at int, sector []byte) {
		if d.below(12) == 0 {
			out.Queue = append(out.Queue, write(at, sector))
			sector = d.data()
		}
		copy(out.Bytes[at*sectorSize:], sector)
	}
	for at := range 2 {
		if d.below(3) > 0 {
			lay(at, d.headSector())
		}
	}
	for area := range 2 {
		epoch := 1 + d.below(3)
		if d.below(30) == 0 {
			epoch = mostEpoch - d.below(3)
		}
		number := 0
		for number < h && d.below(6) > 0 {
			one := d.storeRecord()
			l := impl.Log{First: 2 + area*h, Last: 1 + (area+1)*h, Next: number, Epoch: epoch}
			for _, w := range wantWrites(l, one) {
				if d.below(40) > 0 {
					lay(w.At, w.Data)
				}
			}
			number += pieces(len(one))
			epoch += d.below(4) / 2
			if d.below(20) == 0 {
				epoch = max(1, epoch-1)
			}
		}
	}
	return out
}

func (d *dice) headSector() []byte {
	sector := headSector(byte(d.below(2)), uint32(1+d.below(3)))
	switch d.below(12) {
	case 0:
		sector = headSector(byte(d.below(4)), []uint32{0, mostEpoch - 1, mostEpoch, mostEpoch + 1}[d.below(4)])
	case 1:
		sector[d.below(sectorSize)] ^= byte(1 << d.below(8))
	case 2:
		sector[d.below(30)] ^= byte(1 << d.below(8))
		sector = summed(sector)
	case 3:
		sector = endPiece(uint32(1+d.below(2)), uint32(d.below(3)), string(make([]byte, d.below(3))))
	}
	return sector
}

// storeRecord is of changes, most often, and often of few.
func (d *dice) storeRecord() []byte {
	one := wantPutChanges(d.changes(d.below(3)))
	if len(one) == 0 || d.below(16) == 0 {
		return d.bytes(d.below(50))
	}
	if d.below(24) == 0 {
		one[d.below(len(one))] ^= byte(1 << d.below(8))
	}
	return one
}

// spoiltStore has one thing otherwise, most often.
func (d *dice) spoiltStore(s impl.Store) impl.Store {
	s.Disk, s.Map = clonedDisk(s.Disk), cloneEntries(s.Map)
	switch d.below(12) {
	case 0:
		s.Log.First += d.below(3) - 1
	case 1:
		s.Log.Last += d.below(3) - 1
	case 2:
		s.Log.Next += d.below(3) - 1
	case 3:
		s.Log.Epoch += d.below(3) - 1
	case 4:
		s.Area += d.below(3) - 1
	case 5:
		s.Turn += d.below(3) - 1
	case 6:
		s.Map = d.entries()
	case 7:
		if len(s.Map) > 0 {
			s.Map[d.below(len(s.Map))] = entry(d.below(12), point(1, 2))
		}
	case 8:
		s.Draft = d.changes(d.below(60))
	case 9:
		if len(s.Disk.Bytes) > 0 {
			s.Disk.Bytes[d.below(len(s.Disk.Bytes))] ^= byte(1 << d.below(8))
		}
	case 10:
		s.Disk.Queue = append(s.Disk.Queue, write(d.below(12)-1, d.headSector()))
	case 11:
		s.Disk.Bytes = s.Disk.Bytes[:d.below(len(s.Disk.Bytes)+1)]
	}
	return s
}

func TestStoresByChance(t *testing.T) {
	d := &dice{151}
	codes, areas := map[int]int{}, map[int]int{}
	for range rounds {
		s, code := checkStoreOpen(t, d.storeDisk())
		codes[code]++
		areas[s.Area]++
		for range d.below(4) {
			if d.below(3) == 0 {
				s, code = checkDropIn(t, s, d.below(14))
			} else {
				c := d.change(shapesOfEachKind())
				s, code = checkPutIn(t, s, c.Id, c.Shape)
			}
			codes[code]++
		}
		if d.below(5) == 0 {
			s = d.spoiltStore(s)
		}
		checkVisible(t, s)
		checkAbort(t, s)
		_, code = checkCommit(t, s)
		codes[code]++
		_, code = checkCompact(t, s)
		codes[code]++
	}
	if codes[storeGood] < rounds || codes[storeBad] < 100 || codes[storeFull] < 100 || codes[storeNone] < 100 || areas[1] < 100 {
		t.Error("the test itself is wrong:", codes, areas)
	}
}

// roomyStore is the same store in memory with room behind each list, with something in that; it tells what all of that memory holds, and how to overwrite it.
func roomyStore(s impl.Store) (given impl.Store, tell func() string, spoil func()) {
	disk, same := roomyDisk(s.Disk)
	m, tellMap, spoilMap := roomyList(s.Map, shapeOfEntry, entry(999, point(1, 1)))
	draft, tellDraft, spoilDraft := roomyList(s.Draft, shapeOfChange, put(998, point(2, 2)))
	given = s
	given.Disk, given.Map, given.Draft = disk, m, draft
	tell = func() string { return fmt.Sprint(same(), tellMap(), tellDraft()) }
	return given, tell, func() {
		overwriteDisk(disk)
		spoilMap()
		spoilDraft()
	}
}

// overwriteStore writes over all that an answer holds, and the room behind it.
func overwriteStore(s impl.Store) {
	for _, one := range slices.Concat(shapesIn(s.Map, shapeOfEntry), shapesIn(s.Draft, shapeOfChange)) {
		overwrite(one)
	}
	clear(s.Map[:cap(s.Map)])
	clear(s.Draft[:cap(s.Draft)])
	overwriteDisk(s.Disk)
}

// storeCalls are all of them, of a store and a shape that is put.
func storeCalls() map[string]func(s impl.Store, one impl.Shape) (impl.Store, int) {
	return map[string]func(s impl.Store, one impl.Shape) (impl.Store, int){
		"Open":       func(s impl.Store, _ impl.Shape) (impl.Store, int) { return impl.Open(s.Disk) },
		"Put":        func(s impl.Store, one impl.Shape) (impl.Store, int) { return impl.Put(s, 3, one) },
		"Put of 0":   func(s impl.Store, one impl.Shape) (impl.Store, int) { return impl.Put(s, 0, one) },
		"Drop":       func(s impl.Store, _ impl.Shape) (impl.Store, int) { return impl.Drop(s, 1) },
		"Drop of 99": func(s impl.Store, _ impl.Shape) (impl.Store, int) { return impl.Drop(s, 99) },
		"Commit":     func(s impl.Store, _ impl.Shape) (impl.Store, int) { return impl.Commit(s) },
		"Abort":      func(s impl.Store, _ impl.Shape) (impl.Store, int) { return impl.Abort(s), 0 },
		"Compact":    func(s impl.Store, _ impl.Shape) (impl.Store, int) { return impl.Compact(s) },
		"Visible":    func(s impl.Store, _ impl.Shape) (impl.Store, int) { return impl.Store{Map: impl.Visible(s)}, 0 },
	}
}

// storesForMemory are right ones, refused ones, and some whose shapes lie in one memory.
func storesForMemory(t *testing.T) []impl.Store {
	t.Helper()
	var out []impl.Store
	for _, s := range inOrder(storesToSpoil(t)) {
		out = append(out, s)
		for what, w := range inOrder(wrongStores(s)) {
			if len(what)%7 == 0 {
				out = append(out, w)
			}
		}
	}
	for _, s := range inOrder(storesToCut(t)) {
		s.Draft = []impl.Change{put(3, longLine(5)), drop(2), put(1, area(square(0, 0, 9), hole(2, 2, 3)))}
		out = append(out, s)
	}
	d := &dice{152}
	for range 40 {
		s, _ := impl.Open(d.storeDisk())
		s.Draft = d.changes(d.below(5))
		out = append(out, s)
	}
	full := newStore(t, 4)
	for i := range 4 {
		full = committed(t, full, put(1, point(i, i)))
	}
	for _, s := range inOrder(tightStores(t)) {
		out = append(out, s)
	}
	out = append(out, impl.Store{}, newStore(t, 4), drafting(t, full, put(1, point(9, 9))))
	// One shape many times, in one memory.
	one := area(square(0, 0, 9), hole(2, 2, 3))
	shared := committed(t, newStore(t, 40), put(1, one), put(2, one), put(4, one))
	shared.Map = []impl.Entry{entry(1, one), entry(2, one), entry(4, one)}
	shared.Draft = []impl.Change{put(5, one), put(6, one)}
	data := filled(4)
	shared.Disk.Queue = []impl.Write{write(41, data), write(41, data)}
	return append(out, shared)
}

// The arguments, and what lies behind their lists, stay as they are, and what is behind is not looked at.
func TestStoreCallsLeaveTheirArguments(t *testing.T) {
	for what, call := range storeCalls() {
		for _, s := range storesForMemory(t) {
			for _, one := range []impl.Shape{area(square(0, 0, 9), hole(2, 2, 3)), line(0, 0)} {
				want, wantCode := call(s, one)
				shapeGiven, points, rows := roomyShape(one, pt(most+1, 5))
				given, tell, spoil := roomyStore(s)
				before := tell() + fmt.Sprint(points, rows)
				got, code := call(given, shapeGiven)
				if code != wantCode || !sameStore(got, want) {
					t.Fatalf("%s looks at what lies behind: %d %s, not %d %s", what, code, shortStore(got), wantCode, shortStore(want))
				}
				if tell()+fmt.Sprint(points, rows) != before {
					t.Fatalf("%s changes an argument: %s", what, shortStore(s))
				}
				other, _ := call(given, shapeGiven)
				overwriteStore(other)
				if tell()+fmt.Sprint(points, rows) != before {
					t.Fatalf("%s answers memory of an argument: %s", what, shortStore(s))
				}
				spoil()
				overwriteRow(points)
				overwrite(impl.Shape{Rings: rows})
				if !sameStore(got, want) {
					t.Fatalf("%s hangs on an argument: %s", what, shortStore(s))
				}
			}
		}
	}
}

func clonedStore(s impl.Store) impl.Store {
	out := s
	out.Disk, out.Map, out.Draft = clonedDisk(s.Disk), cloneEntries(s.Map), nil
	for _, c := range s.Draft {
		c.Shape = cloned(c.Shape)
		out.Draft = append(out.Draft, c)
	}
	return out
}

func TestStoreAnswersAreTheirOwn(t *testing.T) {
	one := area(square(0, 0, 9), hole(2, 2, 3))
	for what, call := range storeCalls() {
		for _, s := range storesForMemory(t) {
			kept, code := call(s, one)
			want := clonedStore(kept)
			other, _ := call(s, one)
			overwriteStore(other)
			again, codeAgain := call(s, one)
			if !sameStore(kept, want) || !sameStore(again, want) || code != codeAgain {
				t.Fatalf("%s shares memory with an earlier answer: %s", what, shortStore(s))
			}
			checkShapesApart(t, what, slices.Concat(shapesIn(kept.Map, shapeOfEntry), shapesIn(kept.Draft, shapeOfChange)))
			if !sameStore(kept, want) {
				t.Fatalf("%s: the test itself is wrong", what)
			}
			for i := range kept.Disk.Queue {
				overwriteBytes(kept.Disk.Queue[i].Data)
				for j, w := range kept.Disk.Queue {
					if j != i && !sameWrite(w, want.Disk.Queue[j]) || !bytes.Equal(kept.Disk.Bytes, want.Disk.Bytes) {
						t.Fatalf("%s has two lists that share memory: %s", what, shortStore(s))
					}
				}
				overwriteBytes(kept.Disk.Queue[i].Data)
			}
		}
	}
	for _, h := range []int{4, 9, 3} {
		kept, _ := impl.StoreNew(h)
		other, _ := impl.StoreNew(h)
		overwriteDisk(other)
		if slices.ContainsFunc(kept.Bytes, func(b byte) bool { return b != 0 }) {
			t.Error("new stores share memory:", h)
		}
	}
}

// What was refused, or asked for ahead, leaves nothing behind; nor do calls at the same time.
func TestStoreCallsKeepNothing(t *testing.T) {
	list := storesForMemory(t)
	calls := storeCalls()
	one := longLine(3)
	tell := func(s impl.Store) string {
		text := ""
		for _, what := range slices.Sorted(maps.Keys(calls)) {
			got, code := calls[what](s, one)
			text += fmt.Sprint(got, code)
		}
		return text
	}
	checkKeepsNothing(t, list, tell, shortStore)
}
