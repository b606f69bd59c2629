package tests

import (
	"bytes"
	"encoding/binary"
	"encoding/hex"
	"fmt"
	"hash/fnv"
	"maps"
	"math"
	"math/big"
	"slices"
	"testing"

	"loop.example/g00108/impl"
)

const (
	pieceSize  = 44
	mostRecord = 4000
	mostEpoch  = 1000000
	// The marks of a piece.
	more = 1
	last = 2
)

// logPiece is what a log sector tells.
type logPiece struct {
	epoch, number uint32
	mark          byte
	data          []byte
}

// summed puts the right sum behind what is ahead of it, by the library's reckoning.
func summed(sector []byte) []byte {
	h := fnv.New32a()
	h.Write(sector[:sectorSize-4])
	return binary.LittleEndian.AppendUint32(slices.Clone(sector[:sectorSize-4]), h.Sum32())
}

func (p logPiece) sector() []byte {
	out := binary.LittleEndian.AppendUint32(nil, p.epoch)
	out = binary.LittleEndian.AppendUint32(out, p.number)
	out = append(out, p.mark, byte(len(p.data)), 0, 0, 0, 0, 0, 0)
	out = append(out, p.data...)
	return summed(append(out, make([]byte, sectorSize-len(out))...))
}

// endPiece is the sector of a record's last piece, or only one.
func endPiece(epoch, number uint32, text string) []byte {
	return logPiece{epoch, number, last, []byte(text)}.sector()
}

// fullPiece is the sector of a piece with more behind it: all its bytes are the same one.
func fullPiece(epoch, number uint32, b byte) []byte {
	return logPiece{epoch, number, more, bytes.Repeat([]byte{b}, pieceSize)}.sector()
}

// wantPiece is what the sector tells, if it is a log sector.
func wantPiece(sector []byte) (logPiece, bool) {
	p := logPiece{
		epoch:  binary.LittleEndian.Uint32(sector),
		number: binary.LittleEndian.Uint32(sector[4:]),
		mark:   sector[8],
	}
	size := int(sector[9])
	if p.epoch == 0 || p.epoch > mostEpoch || p.mark != more && p.mark != last {
		return p, false
	}
	if size > pieceSize || p.mark == more && size < pieceSize {
		return p, false
	}
	for i, b := range sector[:sectorSize-4] {
		nought := i >= 10 && i < 16 || i >= 16+size
		if nought && b != 0 {
			return p, false
		}
	}
	p.data = sector[16:][:size]
	return p, bytes.Equal(sector, summed(sector))
}

// belonging is how many of these belong to the log, from the first one on; nil is what is no log sector.
func belonging(list []*logPiece) int {
	for i, p := range list {
		if p == nil || p.number != uint32(i) {
			return i
		}
		if i == 0 {
			continue
		}
		ahead := list[i-1]
		if p.epoch < ahead.epoch || ahead.mark == more && p.epoch > ahead.epoch {
			return i
		}
	}
	return len(list)
}

// logPieces are what the sectors of a good disk tell, nil where one is no log sector.
func logPieces(d impl.Disk, from, to int) []*logPiece {
	var out []*logPiece
	for at := from; at <= to; at++ {
		p, ok := wantPiece(wantSector(d, at, always))
		if ok {
			out = append(out, &p)
		} else {
			out = append(out, nil)
		}
	}
	return out
}

func wantOpen(d impl.Disk, from, to int) (impl.Log, [][]byte, bool) {
	if !wantDiskOk(d) || from < 0 || to < from || to > len(d.Bytes)/sectorSize-1 {
		return impl.Log{}, nil, false
	}
	list := logPieces(d, from, to)
	greatest := 0
	for _, p := range list {
		if p != nil {
			greatest = max(greatest, int(p.epoch))
		}
	}
	if greatest >= mostEpoch {
		return impl.Log{}, nil, false
	}
	l := impl.Log{First: from, Last: to, Epoch: greatest + 1}
	var records [][]byte
	for i, p := range list[:belonging(list)] {
		if p.mark == more {
			continue
		}
		var record []byte
		for _, part := range list[l.Next : i+1] {
			record = append(record, part.data...)
		}
		records = append(records, record)
		l.Next = i + 1
	}
	return l, records, true
}

func wantRoom(l impl.Log) int {
	left := big.NewInt(int64(l.Last))
	left.Sub(left, big.NewInt(int64(l.First)))
	left.Sub(left, big.NewInt(int64(l.Next)))
	left.Add(left, big.NewInt(1))
	switch {
	case left.Sign() < 0:
		return 0
	case !left.IsInt64():
		return math.MaxInt
	}
	return int(left.Int64())
}

func wantLogOk(l impl.Log, sectors int) bool {
	if l.First < 0 || l.Last < l.First || l.Last > sectors-1 {
		return false
	}
	return l.Next >= 0 && l.Next <= l.Last-l.First+1 && l.Epoch > 0 && l.Epoch <= mostEpoch
}

func wantWrites(l impl.Log, record []byte) []impl.Write {
	parts := slices.Collect(slices.Chunk(record, pieceSize))
	if len(parts) == 0 {
		parts = [][]byte{nil}
	}
	if !wantLogOk(l, mostDisk) || len(record) > mostRecord || len(parts) > wantRoom(l) {
		return nil
	}
	var out []impl.Write
	for i, part := range parts {
		p := logPiece{uint32(l.Epoch), uint32(l.Next + i), more, part}
		if i == len(parts)-1 {
			p.mark = last
		}
		out = append(out, write(l.First+l.Next+i, p.sector()))
	}
	return out
}

func sameRecords(a, b [][]byte) bool { return slices.EqualFunc(a, b, bytes.Equal) }

func sameWrites(a, b []impl.Write) bool { return slices.EqualFunc(a, b, sameWrite) }

func checkOpen(t *testing.T, d impl.Disk, from, to int) (impl.Log, [][]byte, bool) {
	t.Helper()
	l, records, ok := impl.LogOpen(d, from, to)
	wantL, wantRecords, wantOk := wantOpen(d, from, to)
	if ok != wantOk || l != wantL || !sameRecords(records, wantRecords) {
		t.Fatalf("LogOpen of %d to %d of %s: %v %q %v, not %v %q %v", from, to, shortDisk(d), l, records, ok, wantL, wantRecords, wantOk)
	}
	return l, records, ok
}

func checkLogWrites(t *testing.T, l impl.Log, record []byte) []impl.Write {
	t.Helper()
	got, want := impl.LogWrites(l, record), wantWrites(l, record)
	if !sameWrites(got, want) {
		t.Fatalf("LogWrites of %v, %s: %v, not %v", l, shortBytes(record), got, want)
	}
	return got
}

func checkAdd(t *testing.T, d impl.Disk, l impl.Log, record []byte) (impl.Disk, impl.Log, bool) {
	t.Helper()
	want, wantL, wantOk := d, l, false
	if wantDiskOk(d) && wantLogOk(l, len(d.Bytes)/sectorSize) {
		if writes := wantWrites(l, record); len(writes) > 0 {
			want = wantSettled(impl.Disk{Bytes: d.Bytes, Queue: slices.Concat(d.Queue, writes)}, always)
			wantL.Next += len(writes)
			wantOk = true
		}
	}
	got, gotL, ok := impl.LogAdd(d, l, record)
	if ok != wantOk || gotL != wantL || !sameDisk(got, want) {
		t.Fatalf("LogAdd of %s, %v, %s: %s %v %v, not %s %v %v", shortDisk(d), l, shortBytes(record), shortDisk(got), gotL, ok, shortDisk(want), wantL, wantOk)
	}
	checkLogWrites(t, l, record)
	return got, gotL, ok
}

func checkLogRoom(t *testing.T, l impl.Log) {
	t.Helper()
	if got, want := impl.LogRoom(l), wantRoom(l); got != want {
		t.Errorf("LogRoom of %v: %d, not %d", l, got, want)
	}
}

// mustAdd adds what there is room for.
func mustAdd(t *testing.T, d impl.Disk, l impl.Log, record []byte) (impl.Disk, impl.Log) {
	t.Helper()
	d, l, ok := checkAdd(t, d, l, record)
	if !ok {
		t.Fatalf("not added to %v: %s", l, shortBytes(record))
	}
	return d, l
}

func mustOpen(t *testing.T, d impl.Disk, from, to int) (impl.Log, [][]byte) {
	t.Helper()
	l, records, ok := checkOpen(t, d, from, to)
	if !ok {
		t.Fatalf("not opened: %d to %d of %s", from, to, shortDisk(d))
	}
	return l, records
}

// checkOpened: the log is this one, with these records.
func checkOpened(t *testing.T, what string, d impl.Disk, want impl.Log, records ...[]byte) {
	t.Helper()
	l, got := mustOpen(t, d, want.First, want.Last)
	if l != want || !sameRecords(got, records) {
		t.Errorf("%s: %v %q, not %v %q", what, l, got, want, records)
	}
}

// checkNoLog: LogOpen refuses it.
func checkNoLog(t *testing.T, what string, d impl.Disk, from, to int) {
	t.Helper()
	if l, records, ok := checkOpen(t, d, from, to); ok || l != (impl.Log{}) || len(records) != 0 {
		t.Errorf("%s: opened: %v %q %v", what, l, records, ok)
	}
}

// checkNotAdded: LogAdd refuses it, and answers what it was given.
func checkNotAdded(t *testing.T, what string, d impl.Disk, l impl.Log, record []byte) {
	t.Helper()
	if got, gotL, ok := checkAdd(t, d, l, record); ok || gotL != l || !sameDisk(got, d) {
		t.Errorf("%s: added: %s %v %v", what, shortDisk(got), gotL, ok)
	}
}

// record is of so many bytes, told apart from others of as many by its first one.
func record(size int, first byte) []byte {
	out := make([]byte, size)
	for i := range out {
		out[i] = first + byte(i*i/7)
	}
	return out
}

// pieces is how many a record of so many bytes has.
func pieces(size int) int {
	if size == 0 {
		return 1
	}
	return (size + pieceSize - 1) / pieceSize
}

// sectorsAt is a disk of so many sectors of 0xee, but for these from one on.
func sectorsAt(total, from int, list ...[]byte) impl.Disk {
	d := diskOf(bytes.Repeat([]byte{0xee}, total))
	for i, sector := range list {
		copy(d.Bytes[(from+i)*sectorSize:], sector)
	}
	return d
}

func TestLogConstants(t *testing.T) {
	if impl.PieceSize != 44 || impl.MaxRecord != 4000 || impl.MaxEpoch != 1000000 {
		t.Error("constants:", impl.PieceSize, impl.MaxRecord, impl.MaxEpoch)
	}
}

func TestLogSectorsByExample(t *testing.T) {
	all := record(pieceSize+1, 0)
	for i := range pieceSize {
		all[i] = byte(100 + i)
	}
	for _, c := range []struct {
		log    impl.Log
		record []byte
		at     int
		want   string
	}{
		{impl.Log{Last: 3, Epoch: 1}, []byte("ab"), 0, "0100000000000000" + "0202" + "000000000000" + "6162000000000000000000000000000000000000000000000000000000000000000000000000000000000000" + "ab9e755f"},
		{impl.Log{First: 2, Last: 3, Epoch: 1}, nil, 2, "0100000000000000" + "0200" + "000000000000" + "0000000000000000000000000000000000000000000000000000000000000000000000000000000000000000" + "26f130d7"},
		{impl.Log{First: 100, Last: 390, Next: 259, Epoch: 920844}, all, 359, "0c0d0e0003010000" + "012c" + "000000000000" + "6465666768696a6b6c6d6e6f707172737475767778797a7b7c7d7e7f808182838485868788898a8b8c8d8e8f" + "a51454f2"},
	} {
		want, err := hex.DecodeString(c.want)
		if err != nil {
			t.Fatal(err)
		}
		if got := checkLogWrites(t, c.log, c.record); got[0].At != c.at || !bytes.Equal(got[0].Data, want) {
			t.Errorf("the first write of %v, %x: %d, %x", c.log, c.record, got[0].At, got[0].Data)
		}
		d, _ := mustAdd(t, impl.DiskNew(mostDisk), c.log, c.record)
		if got, _ := impl.ReadSector(d, c.at); !bytes.Equal(got, want) {
			t.Errorf("the first sector of %v, %x: %x", c.log, c.record, got)
		}
	}
}

func TestNewLogs(t *testing.T) {
	for _, sectors := range []int{1, 2, 3, 7, mostDisk} {
		d := impl.DiskNew(sectors)
		for _, from := range []int{0, 1, sectors / 2, sectors - 1} {
			for _, to := range []int{0, 1, from, sectors / 2, sectors - 1} {
				if from > to || to >= sectors {
					continue
				}
				l := impl.Log{First: from, Last: to, Epoch: 1}
				checkOpened(t, "a new disk", d, l)
				if impl.LogRoom(l) != to-from+1 {
					t.Error("the room of a new log:", l, impl.LogRoom(l))
				}
			}
		}
	}
}

func TestRecordsOneBehindTheOther(t *testing.T) {
	sizes := []int{0, 1, 2, pieceSize - 1, pieceSize, pieceSize + 1, 0, 0, 2*pieceSize - 1, 2 * pieceSize, 2*pieceSize + 1, 3 * pieceSize, 7, 500, 0, mostRecord, 1}
	for _, anew := range []bool{false, true} {
		d := sectorsAt(200, 0)
		l, _ := mustOpen(t, d, 10, 180)
		var want [][]byte
		next, epoch := 0, 1
		for i, size := range sizes {
			one := record(size, byte(i))
			if writes := impl.LogWrites(l, one); len(writes) != pieces(size) {
				t.Fatal("not as few pieces as may be:", size, len(writes))
			}
			d, l = mustAdd(t, d, l, one)
			want = append(want, one)
			next += pieces(size)
			if l != (impl.Log{First: 10, Last: 180, Next: next, Epoch: epoch}) || len(d.Queue) != 0 || impl.LogRoom(l) != 171-next {
				t.Fatal("behind the adding:", l, impl.LogRoom(l))
			}
			checkOpened(t, "opened anew", d, impl.Log{First: 10, Last: 180, Next: next, Epoch: epoch + 1}, want...)
			if anew {
				l, _ = mustOpen(t, d, 10, 180)
				epoch++
			}
		}
		around := sectorsAt(200, 0)
		copy(around.Bytes[10*sectorSize:], d.Bytes[10*sectorSize:][:next*sectorSize])
		if !sameDisk(d, around) {
			t.Error("more is written than the records")
		}
	}
}

// Each byte of a record comes back, at each place.
func TestBytesOfRecords(t *testing.T) {
	for b := range 256 {
		for _, size := range []int{1, pieceSize, pieceSize + 1} {
			one := bytes.Repeat([]byte{byte(b)}, size)
			d := impl.DiskNew(2)
			l, _ := mustOpen(t, d, 0, 1)
			d, _ = mustAdd(t, d, l, one)
			checkOpened(t, "one byte many times", d, impl.Log{Last: 1, Next: pieces(size), Epoch: 2}, one)
		}
	}
	for size := range 10 * pieceSize {
		one := record(size, 3)
		d := impl.DiskNew(10)
		l, _ := mustOpen(t, d, 0, 9)
		d, _ = mustAdd(t, d, l, one)
		checkOpened(t, "each size", d, impl.Log{Last: 9, Next: pieces(size), Epoch: 2}, one)
	}
}

func TestTwoLogsOfOneDisk(t *testing.T) {
	d := sectorsAt(40, 0)
	a, _ := mustOpen(t, d, 2, 19)
	b, _ := mustOpen(t, d, 20, 39)
	var inA, inB [][]byte
	for i := range 4 {
		one, other := record(30*i, byte(i)), record(60*i, byte(100+i))
		d, a = mustAdd(t, d, a, one)
		d, b = mustAdd(t, d, b, other)
		inA, inB = append(inA, one), append(inB, other)
		checkOpened(t, "the one", d, impl.Log{First: 2, Last: 19, Next: a.Next, Epoch: a.Epoch + 1}, inA...)
		checkOpened(t, "the other", d, impl.Log{First: 20, Last: 39, Next: b.Next, Epoch: b.Epoch + 1}, inB...)
		if i == 1 {
			b, _ = mustOpen(t, d, 20, 39)
		}
	}
	if a.Epoch != 1 || b.Epoch != 2 {
		t.Error("epochs of two logs:", a, b)
	}
	// From elsewhere on there is no log: the numbers are not those that come next.
	checkOpened(t, "from the second record on", d, impl.Log{First: 3, Last: 19, Epoch: 2})
	// Within its sectors the beginning is a log, too.
	checkOpened(t, "the first two, and a part of the third", d, impl.Log{First: 2, Last: 4, Next: 2, Epoch: 2}, inA[:2]...)
	checkOpened(t, "over both", d, impl.Log{First: 2, Last: 39, Next: a.Next, Epoch: 3}, inA...)
}

func TestLogsOfOneSector(t *testing.T) {
	for _, at := range []int{0, 1, 2, 3, 4} {
		d := sectorsAt(5, 0)
		l, _ := mustOpen(t, d, at, at)
		checkNotAdded(t, "two pieces in one sector", d, l, record(pieceSize+1, 1))
		for _, size := range []int{0, 1, pieceSize} {
			added, behind := mustAdd(t, d, l, record(size, 9))
			checkOpened(t, "one sector", added, impl.Log{First: at, Last: at, Next: 1, Epoch: 2}, record(size, 9))
			if impl.LogRoom(behind) != 0 {
				t.Error("room behind the only sector:", behind)
			}
			checkNotAdded(t, "full", added, behind, nil)
		}
	}
}

func TestGreatestRecords(t *testing.T) {
	const needed = 91
	for _, sectors := range []int{needed - 1, needed, needed + 1, mostDisk} {
		d := impl.DiskNew(sectors)
		l, _ := mustOpen(t, d, 0, sectors-1)
		for _, size := range []int{mostRecord + 1, mostRecord + 2, 2 * mostRecord, sectors*pieceSize + 1} {
			if size > mostRecord {
				checkNotAdded(t, "a record too long", d, l, record(size, 1))
				if got := impl.LogWrites(l, record(size, 1)); len(got) != 0 {
					t.Error("writes of a record too long:", size, len(got))
				}
			}
		}
		one := record(mostRecord, 1)
		if sectors < needed {
			checkNotAdded(t, "the greatest, and too little room", d, l, one)
			mustAdd(t, d, l, record((needed-1)*pieceSize, 1))
			continue
		}
		d, l = mustAdd(t, d, l, one)
		checkOpened(t, "the greatest", d, impl.Log{Last: sectors - 1, Next: needed, Epoch: 2}, one)
		if impl.LogRoom(l) != sectors-needed {
			t.Error("room behind the greatest:", l)
		}
	}
}

func TestRoomForJustTheRecord(t *testing.T) {
	for room := 1; room <= 9; room++ {
		for _, ahead := range []int{0, 1, 4} {
			d := sectorsAt(20, 0)
			l, _ := mustOpen(t, d, 3, 3+ahead+room-1)
			want := [][]byte{}
			for i := range ahead {
				d, l = mustAdd(t, d, l, []byte{byte(i)})
				want = append(want, []byte{byte(i)})
			}
			if impl.LogRoom(l) != room {
				t.Fatal("room:", l, room)
			}
			checkNotAdded(t, "one piece too many", d, l, record(room*pieceSize+1, 5))
			checkNotAdded(t, "a whole piece too many", d, l, record((room+1)*pieceSize, 5))
			for _, size := range []int{room * pieceSize, room*pieceSize - 1, (room-1)*pieceSize + 1} {
				full, behind := mustAdd(t, d, l, record(size, 5))
				to := 3 + ahead + room - 1
				checkOpened(t, "just the room", full, impl.Log{First: 3, Last: to, Next: ahead + room, Epoch: 2}, append(slices.Clone(want), record(size, 5))...)
				if impl.LogRoom(behind) != 0 {
					t.Error("room of a full log:", behind)
				}
				checkNotAdded(t, "a full log", full, behind, nil)
				checkNotAdded(t, "a full log", full, behind, []byte{1})
				if got, _ := impl.ReadSector(full, to+1); !bytes.Equal(got, filled(0xee)) {
					t.Error("written behind the log:", got)
				}
			}
		}
	}
}

func TestFullLog(t *testing.T) {
	d := impl.DiskNew(mostDisk)
	l, _ := mustOpen(t, d, 0, mostDisk-1)
	var want [][]byte
	for i := range mostDisk {
		one := record(i%(pieceSize+1), byte(i))
		d, l, _ = impl.LogAdd(d, l, one)
		want = append(want, one)
	}
	checkOpened(t, "all sectors", d, impl.Log{Last: mostDisk - 1, Next: mostDisk, Epoch: 2}, want...)
	checkNotAdded(t, "all sectors", d, l, nil)
	// Each number belongs to its own sector alone, past one byte of it, too.
	for _, at := range []int{1, 255, 256, 257, 399} {
		other := clonedDisk(d)
		copy(other.Bytes[at*sectorSize:][:sectorSize], endPiece(1, uint32(at)^256, "x"))
		checkOpened(t, "a number beside", other, impl.Log{Last: mostDisk - 1, Next: at, Epoch: 2}, want[:at]...)
	}
}

func TestEpochs(t *testing.T) {
	for _, epoch := range []uint32{1, 2, 255, 256, 65535, 65536, 920844, mostEpoch - 2, mostEpoch - 1} {
		d := sectorsAt(8, 2, endPiece(epoch, 0, "a"))
		l := impl.Log{First: 2, Last: 6, Next: 1, Epoch: int(epoch) + 1}
		checkOpened(t, "one record", d, l, []byte("a"))
		d, l = mustAdd(t, d, l, []byte("b"))
		if l.Epoch != int(epoch)+1 || l.Next != 2 {
			t.Error("the epoch changes:", l)
		}
		if epoch == mostEpoch-1 {
			checkNoLog(t, "the greatest epoch is used up", d, 2, 6)
			// The log itself goes on.
			_, l = mustAdd(t, d, l, []byte("c"))
			if l.Next != 3 {
				t.Error("the greatest epoch:", l)
			}
			continue
		}
		checkOpened(t, "two records", d, impl.Log{First: 2, Last: 6, Next: 2, Epoch: int(epoch) + 2}, []byte("a"), []byte("b"))
	}
	checkNoLog(t, "the greatest epoch", sectorsAt(8, 2, endPiece(mostEpoch, 0, "a")), 2, 6)
	checkNoLog(t, "the greatest epoch does not belong", sectorsAt(8, 2, endPiece(1, 0, "a"), filled(1), endPiece(mostEpoch, 77, "a")), 2, 6)
	checkNoLog(t, "the greatest epoch at the end", sectorsAt(8, 6, endPiece(mostEpoch, 9, "a")), 2, 6)
	for _, at := range []int{1, 7} {
		d := sectorsAt(8, at, endPiece(mostEpoch, 0, "a"))
		checkOpened(t, "the greatest epoch beside", d, impl.Log{First: 2, Last: 6, Epoch: 1})
	}
	for _, epoch := range []uint32{0, mostEpoch + 1, mostEpoch + 2, 1 << 24, 1 << 31, 1<<32 - 1} {
		d := sectorsAt(8, 2, endPiece(epoch, 0, "a"))
		checkOpened(t, "no epoch", d, impl.Log{First: 2, Last: 6, Epoch: 1})
		d = sectorsAt(8, 2, endPiece(5, 0, "a"), endPiece(epoch, 1, "b"), endPiece(5, 2, "c"))
		checkOpened(t, "no epoch behind", d, impl.Log{First: 2, Last: 6, Next: 1, Epoch: 6}, []byte("a"))
	}
	d := sectorsAt(8, 0)
	for _, epoch := range []int{0, -1, -mostEpoch, mostEpoch + 1, mostEpoch + 2, 1 << 32, 1<<32 + 1, math.MaxInt, math.MinInt} {
		l := impl.Log{First: 2, Last: 6, Epoch: epoch}
		checkNotAdded(t, "no epoch", d, l, []byte("a"))
		if got := impl.LogWrites(l, []byte("a")); len(got) != 0 {
			t.Error("writes of no epoch:", epoch, got)
		}
	}
	for _, epoch := range []int{1, mostEpoch} {
		mustAdd(t, d, impl.Log{First: 2, Last: 6, Epoch: epoch}, []byte("a"))
	}
}

func TestNexts(t *testing.T) {
	d := sectorsAt(12, 0)
	for _, next := range []int{0, 1, 4, 5} {
		l := impl.Log{First: 3, Last: 8, Next: next, Epoch: 7}
		added, behind := mustAdd(t, d, l, []byte("a"))
		if behind.Next != next+1 || !bytes.Equal(added.Bytes[(3+next)*sectorSize:][:sectorSize], endPiece(7, uint32(next), "a")) {
			t.Error("added elsewhere:", next, behind)
		}
	}
	checkNotAdded(t, "full", d, impl.Log{First: 3, Last: 8, Next: 6, Epoch: 7}, nil)
	for _, next := range []int{-1, -3, -4, 7, 8, 12, 400, math.MaxInt, math.MaxInt - 3, math.MinInt, math.MinInt + 3} {
		l := impl.Log{First: 3, Last: 8, Next: next, Epoch: 7}
		checkNotAdded(t, "no such Next", d, l, nil)
		checkNotAdded(t, "no such Next", d, l, []byte("a"))
		if got := impl.LogWrites(l, nil); len(got) != 0 {
			t.Error("writes of no such Next:", next, got)
		}
	}
}

// spoiltPieces are no log sectors, by what is wrong; but for this they would be the one of this epoch and number.
func spoiltPieces(epoch, number uint32) map[string][]byte {
	good := endPiece(epoch, number, "spoilt")
	whole := fullPiece(epoch, number, 'w')
	list := map[string][]byte{
		"noughts":                    make([]byte, sectorSize),
		"all bits":                   filled(0xff),
		"noughts and their sum":      summed(make([]byte, sectorSize)),
		"epoch 0":                    endPiece(0, number, "spoilt"),
		"epoch above the most":       endPiece(mostEpoch+1, number, "spoilt"),
		"the highest bit of epoch":   endPiece(epoch|1<<31, number, "spoilt"),
		"the greatest epoch by bits": endPiece(1<<32-1, number, "spoilt"),
	}
	set := func(what string, sector []byte, at int, b byte) {
		out := slices.Clone(sector)
		out[at] = b
		list[what] = summed(out)
	}
	for _, mark := range []byte{0, 3, 4, 17, 255} {
		set(fmt.Sprint("the mark ", mark), good, 8, mark)
		set(fmt.Sprint("the mark of a full piece ", mark), whole, 8, mark)
	}
	for _, size := range []byte{pieceSize + 1, pieceSize + 2, 48, 54, 55, 128, 255} {
		set(fmt.Sprint("the number of bytes ", size), good, 9, size)
		set(fmt.Sprint("the number of bytes of a full piece ", size), whole, 9, size)
	}
	for _, size := range []byte{0, 1, 5, pieceSize - 1} {
		// A piece that ends may have fewer, if noughts stand behind them: with more there must be all.
		list[fmt.Sprint("more, and not full: ", size)] = logPiece{epoch, number, more, whole[16:][:size]}.sector()
		set(fmt.Sprint("fewer bytes than stand there, with more: ", size), whole, 9, size)
	}
	set("one byte fewer than stands there", good, 9, 5)
	set("no bytes, but they stand there", good, 9, 0)
	for at := 10; at < 16; at++ {
		for _, b := range []byte{1, 128, 255} {
			set(fmt.Sprint("the nought at ", at, " is ", b), good, at, b)
			set(fmt.Sprint("the nought of a full piece at ", at, " is ", b), whole, at, b)
		}
	}
	for at := 16 + 6; at < 60; at++ {
		set(fmt.Sprint("behind the piece, at ", at), good, at, 1)
	}
	for at := range sectorSize {
		for _, bit := range []byte{1, 16, 128} {
			out := slices.Clone(good)
			out[at] ^= bit
			list[fmt.Sprint("the sum is not right: ", at, " ", bit)] = out
		}
	}
	list["no sum"] = append(slices.Clone(good[:60]), 0, 0, 0, 0)
	backward := slices.Clone(good)
	slices.Reverse(backward[60:])
	list["the sum backward"] = backward
	return list
}

func TestSpoiltSectors(t *testing.T) {
	for number := range uint32(3) {
		for what, sector := range spoiltPieces(9, number) {
			list := [][]byte{endPiece(3, 0, "a"), endPiece(3, 1, "b"), endPiece(3, 2, "c"), endPiece(4, 3, "d")}
			texts := [][]byte{[]byte("a"), []byte("b"), []byte("c")}
			list[number] = sector
			d := sectorsAt(9, 2, list...)
			// Its epoch of 9 does not count, that of the sector behind does.
			checkOpened(t, what, d, impl.Log{First: 2, Last: 7, Next: int(number), Epoch: 5}, texts[:number]...)
			d = sectorsAt(9, 2, sector)
			checkOpened(t, what+", alone", d, impl.Log{First: 2, Last: 7, Epoch: 1})
		}
	}
	for what, sector := range spoiltPieces(3, 1) {
		// Within a record it leaves nothing of it.
		d := sectorsAt(9, 2, fullPiece(3, 0, 'a'), sector, endPiece(3, 2, "c"))
		checkOpened(t, what+", within", d, impl.Log{First: 2, Last: 7, Epoch: 4})
	}
}

// All bytes of a sector, each changed to all others, with the sum as it was and with the right one.
func TestEachByteOfASector(t *testing.T) {
	for _, sector := range [][]byte{endPiece(3, 1, "word"), fullPiece(3, 1, 'w'), endPiece(3, 1, ""), endPiece(3, 1, string(record(pieceSize, 1)))} {
		for at := range sectorSize {
			for b := range 256 {
				changed := slices.Clone(sector)
				changed[at] = byte(b)
				d := sectorsAt(4, 0, endPiece(2, 0, "a"), changed, endPiece(3, 2, "c"))
				_, records, _ := checkOpen(t, d, 0, 3)
				if whole := byte(b) == sector[at]; !whole && len(records) != 1 {
					t.Fatal("a changed byte is not seen:", at, b, records)
				}
				copy(d.Bytes[sectorSize:], summed(changed))
				checkOpen(t, d, 0, 3)
			}
		}
	}
}

func TestWhatStandsBehindTheEnd(t *testing.T) {
	a, b, c := []byte("a"), []byte("b"), []byte("c")
	long := append(bytes.Repeat([]byte{'l'}, pieceSize), 'e')
	for _, x := range []struct {
		what    string
		sectors [][]byte
		next    int
		epoch   int
		records [][]byte
	}{
		{"nothing", nil, 0, 1, nil},
		{"a record", [][]byte{endPiece(4, 0, "a")}, 1, 5, [][]byte{a}},
		{"a lesser epoch", [][]byte{endPiece(4, 0, "a"), endPiece(3, 1, "b")}, 1, 5, [][]byte{a}},
		{"a much lesser epoch", [][]byte{endPiece(70000, 0, "a"), endPiece(65536, 1, "b")}, 1, 70001, [][]byte{a}},
		{"a lesser epoch, and then the same one", [][]byte{endPiece(4, 0, "a"), endPiece(3, 1, "b"), endPiece(4, 2, "c")}, 1, 5, [][]byte{a}},
		{"the same epoch", [][]byte{endPiece(4, 0, "a"), endPiece(4, 1, "b")}, 2, 5, [][]byte{a, b}},
		{"a greater epoch", [][]byte{endPiece(4, 0, "a"), endPiece(9, 1, "b")}, 2, 10, [][]byte{a, b}},
		{"a greater epoch, and the one ahead again", [][]byte{endPiece(4, 0, "a"), endPiece(9, 1, "b"), endPiece(4, 2, "c")}, 2, 10, [][]byte{a, b}},
		{"epochs that rise", [][]byte{endPiece(4, 0, "a"), endPiece(9, 1, "b"), endPiece(10, 2, "c")}, 3, 11, [][]byte{a, b, c}},
		{"the same number again", [][]byte{endPiece(4, 0, "a"), endPiece(4, 0, "b")}, 1, 5, [][]byte{a}},
		{"a number left out", [][]byte{endPiece(4, 0, "a"), endPiece(4, 2, "b")}, 1, 5, [][]byte{a}},
		{"the first number is 1", [][]byte{endPiece(4, 1, "a"), endPiece(4, 2, "b")}, 0, 5, nil},
		{"numbers of the disk, not of the log", [][]byte{endPiece(4, 2, "a"), endPiece(4, 3, "b")}, 0, 5, nil},
		{"the number is one more by the highest byte", [][]byte{endPiece(4, 1<<24, "a")}, 0, 5, nil},
		{"the greatest number", [][]byte{endPiece(4, 1<<32-1, "a"), endPiece(4, 0, "b")}, 0, 5, nil},
		{"a gap, and what would go on", [][]byte{endPiece(4, 0, "a"), filled(0), endPiece(4, 1, "b")}, 1, 5, [][]byte{a}},
		{"a gap, and the right number", [][]byte{endPiece(4, 0, "a"), filled(0), endPiece(4, 2, "b")}, 1, 5, [][]byte{a}},
		{"a gap ahead of all", [][]byte{filled(0), endPiece(4, 0, "a"), endPiece(4, 1, "b")}, 0, 5, nil},
		{"the greatest epoch far behind", [][]byte{endPiece(4, 0, "a"), filled(0), filled(7), endPiece(800, 77, "b"), endPiece(30, 4, "c")}, 1, 801, [][]byte{a}},
		{"the greatest epoch in a piece with more", [][]byte{endPiece(4, 0, "a"), filled(0), fullPiece(800, 2, 'b')}, 1, 801, [][]byte{a}},
		{"the greatest epoch in the last sector", [][]byte{endPiece(4, 0, "a"), filled(0), filled(0), filled(0), filled(0), endPiece(800, 5, "b")}, 1, 801, [][]byte{a}},
		{"a greater epoch behind the log's sectors", [][]byte{endPiece(4, 0, "a"), filled(0), filled(0), filled(0), filled(0), filled(0), endPiece(800, 6, "b")}, 1, 5, [][]byte{a}},
		{"a long record", [][]byte{fullPiece(4, 0, 'l'), endPiece(4, 1, "e"), endPiece(4, 2, "c")}, 3, 5, [][]byte{long, c}},
		{"a record that is not ended", [][]byte{endPiece(4, 0, "a"), fullPiece(4, 1, 'l')}, 1, 5, [][]byte{a}},
		{"a record that is not ended, of a greater epoch", [][]byte{endPiece(4, 0, "a"), fullPiece(7, 1, 'l')}, 1, 8, [][]byte{a}},
		{"a record that is not ended, and nothing ahead", [][]byte{fullPiece(4, 0, 'l'), fullPiece(4, 1, 'l')}, 0, 5, nil},
		{"a record that fills the log and is not ended", [][]byte{endPiece(4, 0, "a"), fullPiece(4, 1, 'l'), fullPiece(4, 2, 'l'), fullPiece(4, 3, 'l'), fullPiece(4, 4, 'l'), fullPiece(4, 5, 'l')}, 1, 5, [][]byte{a}},
		{"a record that goes on behind the log", [][]byte{endPiece(4, 0, "a"), fullPiece(4, 1, 'l'), fullPiece(4, 2, 'l'), fullPiece(4, 3, 'l'), fullPiece(4, 4, 'l'), fullPiece(4, 5, 'l'), endPiece(4, 6, "e")}, 1, 5, [][]byte{a}},
		{"a record that ends with the log", [][]byte{endPiece(4, 0, "a"), endPiece(4, 1, "b"), endPiece(4, 2, "c"), endPiece(4, 3, ""), fullPiece(4, 4, 'l'), endPiece(4, 5, "e")}, 6, 5, [][]byte{a, b, c, nil, long}},
		{"a lesser epoch within a record", [][]byte{endPiece(2, 0, "a"), fullPiece(4, 1, 'l'), endPiece(3, 2, "e"), endPiece(4, 3, "c")}, 1, 5, [][]byte{a}},
		{"a greater epoch within a record", [][]byte{endPiece(2, 0, "a"), fullPiece(4, 1, 'l'), endPiece(5, 2, "e"), endPiece(5, 3, "c")}, 1, 6, [][]byte{a}},
		{"another epoch at the third piece", [][]byte{fullPiece(4, 0, 'l'), fullPiece(4, 1, 'l'), endPiece(5, 2, "e")}, 0, 6, nil},
		{"the same epoch again at the third piece", [][]byte{fullPiece(4, 0, 'l'), fullPiece(5, 1, 'l'), endPiece(4, 2, "e")}, 0, 6, nil},
		{"a gap within a record", [][]byte{endPiece(4, 0, "a"), fullPiece(4, 1, 'l'), filled(0), endPiece(4, 3, "e")}, 1, 5, [][]byte{a}},
		{"another number within a record", [][]byte{endPiece(4, 0, "a"), fullPiece(4, 1, 'l'), endPiece(4, 3, "e")}, 1, 5, [][]byte{a}},
		{"a greater epoch behind a long record", [][]byte{fullPiece(4, 0, 'l'), endPiece(4, 1, "e"), endPiece(6, 2, "c")}, 3, 7, [][]byte{long, c}},
		{"a lesser epoch behind a long record", [][]byte{fullPiece(4, 0, 'l'), endPiece(4, 1, "e"), endPiece(3, 2, "c")}, 2, 5, [][]byte{long}},
		{"a record of no bytes, and a lesser epoch", [][]byte{endPiece(4, 0, ""), endPiece(3, 1, "b")}, 1, 5, [][]byte{nil}},
		{"full pieces that end", [][]byte{endPiece(4, 0, string(long[:pieceSize])), endPiece(4, 1, "b")}, 2, 5, [][]byte{long[:pieceSize], b}},
		{"a record that ends with a piece of no bytes", [][]byte{fullPiece(4, 0, 'l'), endPiece(4, 1, "")}, 2, 5, [][]byte{long[:pieceSize]}},
	} {
		d := sectorsAt(10, 2, x.sectors...)
		checkOpened(t, x.what, d, impl.Log{First: 2, Last: 7, Next: x.next, Epoch: x.epoch}, x.records...)
		l, _ := mustOpen(t, d, 2, 7)
		// Whatever stands there: what is added is there, and nothing behind it.
		for size := range 3 {
			one := record(size*pieceSize+1, 200)
			if pieces(len(one)) > impl.LogRoom(l) {
				checkNotAdded(t, x.what, d, l, one)
				continue
			}
			added, behind := mustAdd(t, d, l, one)
			checkOpened(t, x.what+", and more", added, impl.Log{First: 2, Last: 7, Next: behind.Next, Epoch: x.epoch + 1}, append(slices.Clone(x.records), one)...)
		}
	}
}

// A log that is begun anew on sectors full of an elder one: what was there comes back never.
func TestBegunAnew(t *testing.T) {
	for _, size := range []int{0, 5, pieceSize, 2 * pieceSize, 3*pieceSize + 1} {
		d := impl.DiskNew(14)
		l, _ := mustOpen(t, d, 1, 12)
		for i := 0; pieces(size) <= impl.LogRoom(l); i++ {
			d, l = mustAdd(t, d, l, record(size, byte(i)))
		}
		l, _ = mustOpen(t, d, 1, 12)
		l.Next = 0
		var want [][]byte
		for i := range 4 {
			one := record(40*i, byte(90+i))
			d, l = mustAdd(t, d, l, one)
			want = append(want, one)
			checkOpened(t, "begun anew", d, impl.Log{First: 1, Last: 12, Next: l.Next, Epoch: l.Epoch + 1}, want...)
		}
	}
}

func TestLogsOfWrongDisks(t *testing.T) {
	for what, d := range wrongDisks() {
		checkNoLog(t, what, d, 0, 0)
		checkNoLog(t, what, d, 0, 2)
		for _, l := range []impl.Log{{Epoch: 1}, {Last: 2, Epoch: 1}, {Last: 2, Next: 3, Epoch: 1}, {}} {
			checkNotAdded(t, what, d, l, nil)
			checkNotAdded(t, what, d, l, []byte("a"))
		}
	}
}

func TestNoSuchSectors(t *testing.T) {
	for _, sectors := range []int{1, 2, 5, mostDisk} {
		d := impl.DiskNew(sectors)
		ends := []int{math.MinInt, math.MinInt + 1, -mostDisk, -2, -1, 0, 1, sectors / 2, sectors - 1, sectors, sectors + 1, mostDisk, 1 << 58, math.MaxInt - 1, math.MaxInt}
		for _, from := range ends {
			for _, to := range ends {
				checkOpen(t, d, from, to)
				if there := 0 <= from && from <= to && to < sectors; !there {
					checkNoLog(t, fmt.Sprint(from, " to ", to, " of ", sectors), d, from, to)
				}
				for _, next := range ends {
					l := impl.Log{First: from, Last: to, Next: next, Epoch: 1}
					checkLogRoom(t, l)
					_, _, ok := checkAdd(t, d, l, []byte("a"))
					if may := 0 <= from && from <= to && to < sectors && 0 <= next && next <= to-from; ok != may {
						t.Error("added:", l, "on a disk of", sectors, ok)
					}
				}
			}
		}
	}
}

func TestRooms(t *testing.T) {
	for _, c := range []struct {
		log  impl.Log
		want int
	}{
		{impl.Log{Epoch: 1}, 1},
		{impl.Log{}, 1},
		{impl.Log{Next: 1, Epoch: 1}, 0},
		{impl.Log{First: 3, Last: 9, Epoch: 1}, 7},
		{impl.Log{First: 3, Last: 9, Next: 6, Epoch: 1}, 1},
		{impl.Log{First: 3, Last: 9, Next: 7, Epoch: 1}, 0},
		{impl.Log{First: 3, Last: 9, Next: 8, Epoch: 1}, 0},
		{impl.Log{First: 3, Last: 9, Next: 9, Epoch: 1}, 0},
		{impl.Log{First: 3, Last: 9, Next: 400, Epoch: 1}, 0},
		{impl.Log{First: 3, Last: 9, Next: math.MaxInt}, 0},
		{impl.Log{First: 3, Last: 9, Next: 2, Epoch: mostEpoch + 1}, 5},
		{impl.Log{First: 9, Last: 3, Epoch: 1}, 0},
		{impl.Log{First: 9, Last: 8, Epoch: 1}, 0},
		{impl.Log{First: 9, Last: 8, Next: 1, Epoch: 1}, 0},
		{impl.Log{First: 0, Last: 999, Next: 10, Epoch: 1}, 990},
		{impl.Log{First: math.MaxInt, Last: math.MinInt, Epoch: 1}, 0},
		{impl.Log{First: math.MaxInt, Last: math.MinInt, Next: math.MaxInt, Epoch: 1}, 0},
		{impl.Log{First: 0, Last: math.MaxInt, Next: math.MaxInt, Epoch: 1}, 1},
		{impl.Log{First: 1, Last: math.MaxInt, Epoch: 1}, math.MaxInt},
		{impl.Log{First: 0, Last: math.MinInt, Next: math.MaxInt, Epoch: 1}, 0},
	} {
		checkLogRoom(t, c.log)
		if got := impl.LogRoom(c.log); got != c.want {
			t.Errorf("LogRoom of %v: %d, not %d", c.log, got, c.want)
		}
	}
}

// LogWrites has no disk at hand: it tells the writes for each log that some disk may have.
func TestWritesWithoutADisk(t *testing.T) {
	for _, l := range []impl.Log{
		{First: -1, Last: 5, Epoch: 1},
		{First: -1, Last: -1, Epoch: 1},
		{First: 5, Last: 4, Epoch: 1},
		{First: math.MaxInt, Last: math.MinInt, Epoch: 1},
		{First: math.MinInt, Last: math.MaxInt, Epoch: 1},
		{First: 0, Last: mostDisk, Epoch: 1},
		{First: mostDisk, Last: mostDisk, Epoch: 1},
		{First: 0, Last: math.MaxInt, Epoch: 1},
		{First: 0, Last: 5, Next: -1, Epoch: 1},
		{First: 0, Last: 5, Next: 6, Epoch: 1},
		{First: 0, Last: 5, Next: 7, Epoch: 1},
		{First: 0, Last: 5, Next: math.MaxInt, Epoch: 1},
		{First: 0, Last: 5, Next: math.MinInt, Epoch: 1},
		{First: 0, Last: 5},
		{First: 0, Last: 5, Epoch: -1},
		{First: 0, Last: 5, Epoch: mostEpoch + 1},
		{},
	} {
		for _, one := range [][]byte{nil, []byte("a"), record(100, 1), record(mostRecord+1, 1)} {
			if got := checkLogWrites(t, l, one); len(got) != 0 {
				t.Error("writes of a log that no disk has:", l, len(got))
			}
		}
	}
	if got := checkLogWrites(t, impl.Log{First: mostDisk - 1, Last: mostDisk - 1, Epoch: mostEpoch}, nil); len(got) != 1 || got[0].At != mostDisk-1 {
		t.Error("the last sector of the greatest disk:", got)
	}
}

func TestLogsWithAQueue(t *testing.T) {
	d := sectorsAt(8, 2, endPiece(3, 0, "a"), endPiece(3, 1, "b"))
	for _, c := range []struct {
		what    string
		queue   []impl.Write
		next    int
		epoch   int
		records []string
	}{
		{"elsewhere", []impl.Write{write(0, filled(1)), write(7, filled(2))}, 2, 4, []string{"a", "b"}},
		{"a greater epoch elsewhere", []impl.Write{write(0, endPiece(90, 0, "x")), write(7, endPiece(90, 5, "x"))}, 2, 4, []string{"a", "b"}},
		{"one more record", []impl.Write{write(4, endPiece(3, 2, "c"))}, 3, 4, []string{"a", "b", "c"}},
		{"another record", []impl.Write{write(3, endPiece(5, 1, "z"))}, 2, 6, []string{"a", "z"}},
		{"no record any more", []impl.Write{write(2, filled(0))}, 0, 4, nil},
		{"one that is overwritten in the queue", []impl.Write{write(4, endPiece(3, 2, "c")), write(4, endPiece(3, 2, "d"))}, 3, 4, []string{"a", "b", "d"}},
		{"one that is taken back in the queue", []impl.Write{write(4, endPiece(70, 2, "c")), write(4, filled(0xee))}, 2, 4, []string{"a", "b"}},
		{"backward", []impl.Write{write(5, endPiece(4, 3, "d")), write(4, endPiece(4, 2, "c"))}, 4, 5, []string{"a", "b", "c", "d"}},
		{"the greatest epoch far behind", []impl.Write{write(6, endPiece(500, 9, "x"))}, 2, 501, []string{"a", "b"}},
	} {
		given := impl.Disk{Bytes: d.Bytes, Queue: c.queue}
		var want [][]byte
		for _, text := range c.records {
			want = append(want, []byte(text))
		}
		l := impl.Log{First: 2, Last: 6, Next: c.next, Epoch: c.epoch}
		checkOpened(t, c.what, given, l, want...)
		if pieces(45) > impl.LogRoom(l) {
			continue
		}
		// All of the queue is done, too, and ahead of the record.
		one := record(45, 1)
		added, behind := mustAdd(t, given, l, one)
		if len(added.Queue) != 0 {
			t.Error(c.what, "leaves a queue:", shortDisk(added))
		}
		for _, w := range c.queue {
			inside := w.At >= 2+c.next && w.At < 2+behind.Next
			if got, _ := impl.ReadSector(added, w.At); !inside && !bytes.Equal(got, wantSector(given, w.At, always)) {
				t.Error(c.what, "loses a write at", w.At)
			}
		}
		checkOpened(t, c.what+", and more", added, impl.Log{First: 2, Last: 6, Next: behind.Next, Epoch: c.epoch + 1}, append(want, one)...)
		checkNotAdded(t, c.what, given, l, record(mostRecord+1, 1))
		checkNotAdded(t, c.what, given, impl.Log{First: 2, Last: 8, Epoch: 1}, one)
	}
	// A write of the queue into a sector that the record goes to is overwritten.
	given := impl.Disk{Bytes: d.Bytes, Queue: []impl.Write{write(4, filled(9)), write(5, filled(9))}}
	added, _ := mustAdd(t, given, impl.Log{First: 2, Last: 6, Next: 2, Epoch: 4}, []byte("new"))
	if !bytes.Equal(added.Bytes[4*sectorSize:][:2*sectorSize], slices.Concat(endPiece(4, 2, "new"), filled(9))) {
		t.Error("the queue is done behind the record:", shortDisk(added))
	}
	checkNoLog(t, "the greatest epoch in the queue", impl.Disk{Bytes: d.Bytes, Queue: []impl.Write{write(5, endPiece(mostEpoch, 0, "x"))}}, 2, 6)
	checkNoLog(t, "a queue of no such sector", impl.Disk{Bytes: d.Bytes, Queue: []impl.Write{write(8, filled(1))}}, 2, 6)
}

// openLog is a log as LogOpen told it, with the records that it has.
type openLog struct {
	disk    impl.Disk
	log     impl.Log
	records [][]byte
}

func opened(t *testing.T, d impl.Disk, from, to int) openLog {
	t.Helper()
	l, records := mustOpen(t, d, from, to)
	return openLog{d, l, records}
}

func (o openLog) added(t *testing.T, one []byte) openLog {
	t.Helper()
	d, l := mustAdd(t, o.disk, o.log, one)
	return openLog{d, l, append(slices.Clone(o.records), one)}
}

// cut is the disk behind a crash within the adding of a record.
func (o openLog) cut(one []byte, coins []byte) impl.Disk {
	queue := slices.Concat(o.disk.Queue, impl.LogWrites(o.log, one))
	return impl.Crash(impl.Disk{Bytes: o.disk.Bytes, Queue: queue}, coins)
}

// reopened opens a disk behind a crash within the adding of one: it has the records that it had, and perhaps the new one.
func (o openLog) reopened(t *testing.T, what string, cut impl.Disk, one []byte) openLog {
	t.Helper()
	next := opened(t, cut, o.log.First, o.log.Last)
	with := append(slices.Clone(o.records), one)
	if !sameRecords(next.records, o.records) && !sameRecords(next.records, with) {
		t.Fatalf("%s: behind the crash there is %q, not %q and perhaps %q", what, next.records, o.records, one)
	}
	return next
}

// logsToCut are logs with room for 9 sectors and more, by what stands behind their end.
func logsToCut(t *testing.T) map[string]openLog {
	const sectors, from, to = 30, 2, 27
	list := map[string]openLog{}
	start := opened(t, impl.DiskNew(sectors), from, to)
	list["new"] = start
	few := start.added(t, []byte("one")).added(t, record(50, 2)).added(t, nil)
	list["three records, not opened anew"] = few
	list["three records"] = opened(t, few.disk, from, to)
	for what, size := range map[string]int{"single pieces": 9, "no bytes": 0, "pairs": 60, "long ones": 7*pieceSize + 3} {
		full := start
		for pieces(size) <= impl.LogRoom(full.log) {
			full = full.added(t, record(size, byte(full.log.Next)))
		}
		anew, _ := mustOpen(t, full.disk, from, to)
		anew.Next = 0
		d, _ := mustAdd(t, full.disk, anew, []byte("anew"))
		list["an elder log of "+what] = opened(t, d, from, to)
		// Once more, so that of three epochs there is something.
		anew.Epoch++
		d, anew = mustAdd(t, d, anew, record(70, 1))
		list["two elder logs, of "+what] = opened(t, d, from, to)
	}
	for _, coins := range []byte{0x01, 0x02, 0x0f, 0xaa, 0xfe, 0x7f} {
		one := record(8*pieceSize, 33)
		cut := few.cut(one, []byte{coins})
		list[fmt.Sprint("a record that was cut by ", coins)] = few.reopened(t, "cut", cut, one)
	}
	d := &dice{131}
	chance := clonedDisk(few.disk)
	copy(chance.Bytes[(from+few.log.Next)*sectorSize:], d.bytes((to+1-from-few.log.Next)*sectorSize))
	list["bytes by chance"] = opened(t, chance, from, to)
	spoilt, at := clonedDisk(few.disk), from+few.log.Next
	kinds := spoiltPieces(uint32(few.log.Epoch), uint32(few.log.Next))
	// Sorted, so that the same ones stand there at every run.
	for _, what := range slices.Sorted(maps.Keys(kinds)) {
		if at <= to && d.below(8) == 0 {
			copy(spoilt.Bytes[at*sectorSize:], kinds[what])
			at++
		}
	}
	list["spoilt sectors"] = opened(t, spoilt, from, to)
	mixed := clonedDisk(few.disk)
	for at := from + few.log.Next + 1; at <= to; at++ {
		epoch, number := uint32(1+d.below(40)), uint32(at-from)
		sector := endPiece(epoch, number, "mixed")
		if d.below(2) == 0 {
			sector = fullPiece(epoch, number, 'm')
		}
		copy(mixed.Bytes[at*sectorSize:], sector)
	}
	list["the right numbers, epochs by chance"] = opened(t, mixed, from, to)
	great := clonedDisk(few.disk)
	copy(great.Bytes[to*sectorSize:], endPiece(mostEpoch-8, 25, "great"))
	list["a great epoch in the last sector"] = opened(t, great, from, to)
	queued := opened(t, few.disk, from, to)
	queued.disk.Queue = []impl.Write{write(0, filled(1)), write(sectors-1, filled(2)), write(0, filled(3))}
	list["a queue of other sectors"] = queued
	return list
}

// Each set of the writes of a record of up to 8 pieces is kept, the others are lost.
func TestCrashesWithinAnAdding(t *testing.T) {
	sizes := []int{0}
	for n := 1; n <= 8; n++ {
		sizes = append(sizes, (n-1)*pieceSize+1, n*pieceSize)
	}
	for what, o := range logsToCut(t) {
		for _, size := range sizes {
			one := record(size, 77)
			ahead := len(o.disk.Queue)
			for set := range 1 << pieces(size) {
				coins := binary.LittleEndian.AppendUint32(nil, uint32(set<<ahead|(1<<ahead-1)))
				cut := o.cut(one, coins)
				next := o.reopened(t, what, cut, one)
				if kept := len(next.records) > len(o.records); kept != (set == 1<<pieces(size)-1) {
					t.Fatal(what, "a record that is there in part:", size, set, kept)
				}
				checkCutGoesOn(t, what, next, set)
			}
		}
	}
}

// checkCutGoesOn: what is added behind the crash is there, and nothing else.
func checkCutGoesOn(t *testing.T, what string, next openLog, set int) {
	t.Helper()
	for i, size := range []int{set % 50, (set * 37) % (3 * pieceSize), 0} {
		next = next.added(t, record(size, byte(i+set)))
		again := opened(t, next.disk, next.log.First, next.log.Last)
		if !sameRecords(again.records, next.records) || again.log.Next != next.log.Next || again.log.Epoch <= next.log.Epoch {
			t.Fatalf("%s: added behind a crash: %v %q, opened anew %v %q", what, next.log, next.records, again.log, again.records)
		}
	}
}

// A second crash comes within the adding behind the first one, and a third.
func TestCrashesBehindCrashes(t *testing.T) {
	one, other, third := record(3*pieceSize, 10), record(2*pieceSize+5, 20), record(4*pieceSize, 30)
	for what, o := range logsToCut(t) {
		all := 1<<len(o.disk.Queue) - 1
		for a := range 8 {
			first := o.reopened(t, what, o.cut(one, []byte{byte(a<<len(o.disk.Queue) | all)}), one)
			for b := range 8 {
				second := first.reopened(t, what, first.cut(other, []byte{byte(b)}), other)
				for c := range 16 {
					next := second.reopened(t, what, second.cut(third, []byte{byte(c)}), third)
					checkCutGoesOn(t, what, next, a+b+c)
				}
			}
		}
	}
}

// A long life of a log, beside the records that it must have.
func TestLogsInTheLongRun(t *testing.T) {
	d := &dice{132}
	kept, lost := 0, 0
	for range 150 {
		sectors := 10 + d.below(60)
		from := d.below(4)
		to := sectors - 1 - d.below(4)
		disk := impl.Disk{Bytes: d.bytes(sectors * sectorSize)}
		o := opened(t, disk, from, to)
		for range 60 {
			one := d.bytes(d.below(1 + d.below(5*pieceSize)))
			if pieces(len(one)) > impl.LogRoom(o.log) {
				checkNotAdded(t, "too little room", o.disk, o.log, one)
				// Begun anew with one record, whatever the elder ones were.
				anew := opened(t, o.disk, from, to).log
				anew.Next = 0
				o = openLog{o.disk, anew, nil}.added(t, []byte("anew"))
				continue
			}
			switch d.below(4) {
			case 0:
				o = o.added(t, one)
			case 1:
				o = opened(t, o.added(t, one).disk, from, to)
			default:
				next := o.reopened(t, "the long run", o.cut(one, d.bytes(1+d.below(2))), one)
				if len(next.records) > len(o.records) {
					kept++
				} else {
					lost++
				}
				o = next
			}
		}
	}
	if kept < 500 || lost < 500 {
		t.Error("too few of a kind:", kept, lost)
	}
}

// logDisk is full of sectors most of which would go on with a log.
func (d *dice) logDisk() impl.Disk {
	sectors := 1 + d.below(12)
	from := d.below(2)
	out := impl.DiskNew(sectors)
	epoch := 1 + d.below(3)
	for at := range sectors {
		sector := d.logSector(uint32(epoch), uint32(max(0, at-from)))
		if d.below(5) == 0 {
			out.Queue = append(out.Queue, write(at, sector))
			sector = d.data()
		}
		copy(out.Bytes[at*sectorSize:], sector)
		if d.below(6) == 0 {
			epoch += d.below(3)
		}
	}
	return out
}

func (d *dice) logSector(epoch, number uint32) []byte {
	switch d.below(16) {
	case 0:
		epoch += uint32(d.below(3)) - 1
	case 1:
		number += uint32(d.below(3)) - 1
	case 2:
		if d.below(8) == 0 {
			epoch = []uint32{0, mostEpoch - 1, mostEpoch, mostEpoch + 1}[d.below(4)]
		}
	}
	p := logPiece{epoch, number, last, d.bytes(d.below(pieceSize + 1))}
	if d.below(3) == 0 {
		p = logPiece{epoch, number, more, d.bytes(pieceSize)}
	}
	sector := p.sector()
	switch d.below(24) {
	case 0:
		sector[d.below(sectorSize)] ^= byte(1 << d.below(8))
	case 1:
		sector[8+d.below(52)] ^= byte(1 << d.below(8))
		sector = summed(sector)
	case 2:
		return make([]byte, sectorSize)
	}
	return sector
}

func TestLogsByChance(t *testing.T) {
	d := &dice{133}
	long, none := 0, 0
	for range 4 * rounds {
		disk := d.logDisk()
		if d.below(20) == 0 {
			disk = d.spoiltDisk()
		}
		from, to := d.below(2), len(disk.Bytes)/sectorSize-1
		if d.below(4) == 0 {
			from, to = d.below(4)-1, d.below(14)-1
		}
		l, records, ok := checkOpen(t, disk, from, to)
		switch {
		case !ok:
			none++
			l = impl.Log{First: from, Last: to, Next: d.below(8) - 1, Epoch: d.below(5) - 1}
		case len(records) > 2:
			long++
		}
		if d.below(4) == 0 {
			l.Next += d.below(5) - 2
		}
		checkAdd(t, disk, l, d.bytes(d.below(6*pieceSize)))
		checkLogRoom(t, l)
	}
	if long < rounds/4 || none < rounds/4 {
		t.Error("too few of a kind:", long, none)
	}
}

// logsForMemory are disks with the logs that calls are asked about, refused ones too.
func logsForMemory(t *testing.T) []openLog {
	t.Helper()
	var list []openLog
	for _, o := range inOrder(logsToCut(t)) {
		list = append(list, o)
	}
	d := &dice{134}
	for range 60 {
		disk := d.logDisk()
		l, records, _ := impl.LogOpen(disk, 0, len(disk.Bytes)/sectorSize-1)
		list = append(list, openLog{disk, l, records})
		list = append(list, openLog{d.spoiltDisk(), impl.Log{Last: 1, Epoch: 1}, nil})
	}
	shared := counted(1)
	return append(list,
		openLog{disk: impl.Disk{}},
		openLog{disk: diskOf([]byte{1, 2, 3}, write(0, shared), write(1, shared)), log: impl.Log{Last: 2, Epoch: 5}},
		openLog{disk: diskOf([]byte{1, 2, 3}, write(0, shared), write(1, shared)), log: impl.Log{Last: 3, Epoch: 5}})
}

func recordsForMemory() [][]byte {
	return [][]byte{nil, []byte("a"), record(pieceSize, 1), record(pieceSize+1, 1), record(5*pieceSize+9, 1), record(mostRecord+1, 1)}
}

func TestLogCallsLeaveTheirArguments(t *testing.T) {
	for _, o := range logsForMemory(t) {
		given, same := roomyDisk(o.disk)
		for _, one := range recordsForMemory() {
			room := append(slices.Clone(one), filled(0xcd)...)
			want := slices.Clone(room)
			few := room[:len(one)]
			impl.LogAdd(given, o.log, few)
			impl.LogWrites(o.log, few)
			if !same() || !bytes.Equal(room, want) {
				t.Fatal("LogAdd or LogWrites changes an argument:", shortDisk(o.disk), o.log)
			}
		}
		impl.LogOpen(given, o.log.First, o.log.Last)
		impl.LogOpen(given, 0, 0)
		if !same() {
			t.Fatal("LogOpen changes its disk:", shortDisk(o.disk))
		}
		// What is behind the length is not read, either.
		for _, one := range recordsForMemory() {
			room := append(slices.Clone(one), filled(0xcd)...)[:len(one)]
			checkAdd(t, given, o.log, room)
		}
		checkOpen(t, given, o.log.First, o.log.Last)
	}
}

func clonedRecords(list [][]byte) [][]byte {
	var out [][]byte
	for _, one := range list {
		out = append(out, slices.Clone(one))
	}
	return out
}

func TestRecordsAreTheirOwn(t *testing.T) {
	for _, o := range logsForMemory(t) {
		given := clonedDisk(o.disk)
		_, kept, _ := impl.LogOpen(given, o.log.First, o.log.Last)
		_, other, _ := impl.LogOpen(given, o.log.First, o.log.Last)
		want := clonedRecords(kept)
		for _, one := range other {
			overwriteBytes(one)
		}
		clear(other[:cap(other)])
		if !sameRecords(kept, want) || !sameDisk(given, o.disk) {
			t.Fatal("records are not their own:", shortDisk(o.disk))
		}
		overwriteDisk(given)
		if !sameRecords(kept, want) {
			t.Fatal("records hang on their disk:", shortDisk(o.disk))
		}
		for i, one := range kept {
			overwriteBytes(one)
			for j := range kept {
				if j != i && !bytes.Equal(kept[j], want[j]) {
					t.Fatal("two records share memory:", i, j)
				}
			}
			overwriteBytes(one)
		}
	}
}

func TestDisksOfLogsAreTheirOwn(t *testing.T) {
	for _, o := range logsForMemory(t) {
		for _, one := range recordsForMemory() {
			given, text := clonedDisk(o.disk), slices.Clone(one)
			kept, _, _ := impl.LogAdd(given, o.log, text)
			other, _, _ := impl.LogAdd(given, o.log, text)
			want := clonedDisk(kept)
			overwriteDisk(other)
			if !sameDisk(kept, want) || !sameDisk(given, o.disk) || !bytes.Equal(text, one) {
				t.Fatal("LogAdd answers what is not its own:", shortDisk(o.disk), o.log)
			}
			overwriteDisk(given)
			overwriteBytes(text)
			if !sameDisk(kept, want) {
				t.Fatal("LogAdd hangs on its arguments:", shortDisk(o.disk), o.log)
			}
			for i := range kept.Queue {
				overwriteBytes(kept.Queue[i].Data)
				for j, w := range kept.Queue {
					if j != i && !sameWrite(w, want.Queue[j]) || !bytes.Equal(kept.Bytes, want.Bytes) {
						t.Fatal("LogAdd has two lists that share memory:", i, j)
					}
				}
				overwriteBytes(kept.Queue[i].Data)
			}
		}
	}
}

func TestLogWritesAreTheirOwn(t *testing.T) {
	for _, o := range logsForMemory(t) {
		for _, one := range recordsForMemory() {
			text := slices.Clone(one)
			kept, other := impl.LogWrites(o.log, text), impl.LogWrites(o.log, text)
			want := wantWrites(o.log, one)
			overwriteDisk(impl.Disk{Queue: other})
			if !sameWrites(kept, want) || !bytes.Equal(text, one) {
				t.Fatal("LogWrites answers what is not its own:", o.log)
			}
			overwriteBytes(text)
			for i := range kept {
				overwriteBytes(kept[i].Data)
				for j, w := range kept {
					if j != i && !sameWrite(w, want[j]) {
						t.Fatal("two writes share memory:", i, j)
					}
				}
				overwriteBytes(kept[i].Data)
			}
			if !sameWrites(kept, want) {
				t.Fatal("LogWrites hangs on its record:", o.log)
			}
		}
	}
}

// What was refused, or asked for ahead, leaves nothing behind.
func TestLogCallsKeepNothing(t *testing.T) {
	list := logsForMemory(t)
	tell := func(o openLog) string {
		text := fmt.Sprint(impl.LogRoom(o.log))
		l, records, ok := impl.LogOpen(o.disk, o.log.First, o.log.Last)
		text += fmt.Sprint(l, records, ok)
		for _, one := range recordsForMemory() {
			d, l, ok := impl.LogAdd(o.disk, o.log, one)
			text += fmt.Sprint(d, l, ok, impl.LogWrites(o.log, one))
		}
		return text
	}
	var first []string
	for _, o := range list {
		first = append(first, tell(o))
	}
	for i, o := range slices.Backward(list) {
		if tell(o) != first[i] {
			t.Error("another answer later:", i, o.log)
		}
	}
}
