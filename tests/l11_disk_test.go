package tests

import (
	"bytes"
	"fmt"
	"math"
	"slices"
	"testing"

	"loop.example/g00108/impl"
)

const (
	sectorSize = 64
	mostDisk   = 400
)

// filled is the data of a write: all its bytes are the same one.
func filled(b byte) []byte { return bytes.Repeat([]byte{b}, sectorSize) }

// counted is the data of a write, no two bytes of which are the same.
func counted(first byte) []byte {
	out := make([]byte, sectorSize)
	for i := range out {
		out[i] = first + byte(i)
	}
	return out
}

func write(at int, data []byte) impl.Write { return impl.Write{At: at, Data: data} }

// diskOf has a sector for each of these bytes, full of it.
func diskOf(sectors []byte, queue ...impl.Write) impl.Disk {
	d := impl.Disk{Queue: queue}
	for _, b := range sectors {
		d.Bytes = append(d.Bytes, filled(b)...)
	}
	return d
}

func sameWrite(a, b impl.Write) bool { return a.At == b.At && bytes.Equal(a.Data, b.Data) }

func sameDisk(a, b impl.Disk) bool {
	return bytes.Equal(a.Bytes, b.Bytes) && slices.EqualFunc(a.Queue, b.Queue, sameWrite)
}

func clonedDisk(d impl.Disk) impl.Disk {
	out := impl.Disk{Bytes: slices.Clone(d.Bytes)}
	for _, w := range d.Queue {
		out.Queue = append(out.Queue, write(w.At, slices.Clone(w.Data)))
	}
	return out
}

// shortDisk tells a disk so that a failure can be read.
func shortDisk(d impl.Disk) string {
	text := shortBytes(d.Bytes)
	for i, w := range d.Queue {
		if i == 20 {
			return text + fmt.Sprintf(" .. (%d writes)", len(d.Queue))
		}
		text += fmt.Sprintf(" %d:%s", w.At, shortBytes(w.Data))
	}
	return text
}

func wantDiskOk(d impl.Disk) bool {
	if len(d.Bytes) == 0 || len(d.Bytes) > mostDisk*sectorSize || len(d.Bytes)%sectorSize > 0 {
		return false
	}
	return !slices.ContainsFunc(d.Queue, func(w impl.Write) bool {
		return w.At < 0 || w.At > len(d.Bytes)/sectorSize-1 || len(w.Data) != sectorSize
	})
}

// coin is the bit of the queue's write i, by counting the bits one by one.
func coin(coins []byte, i int) bool {
	place := 0
	for _, b := range coins {
		for bit := range 8 {
			if place == i {
				return b&(1<<bit) != 0
			}
			place++
		}
	}
	return false
}

// wantSector is what a sector of a good disk is when just these of the queue's writes are done: the last one of them, else what it was.
func wantSector(d impl.Disk, at int, done func(i int) bool) []byte {
	for i, w := range slices.Backward(d.Queue) {
		if w.At == at && done(i) {
			return w.Data
		}
	}
	return d.Bytes[at*sectorSize:][:sectorSize]
}

func wantSettled(d impl.Disk, done func(i int) bool) impl.Disk {
	if !wantDiskOk(d) {
		return d
	}
	var out impl.Disk
	for at := range len(d.Bytes) / sectorSize {
		out.Bytes = append(out.Bytes, wantSector(d, at, done)...)
	}
	return out
}

func always(int) bool { return true }

func checkWrite(t *testing.T, d impl.Disk, at int, data []byte) (impl.Disk, bool) {
	t.Helper()
	want := d
	wantOk := wantDiskOk(d) && at >= 0 && at < len(d.Bytes)/sectorSize && len(data) == sectorSize
	if wantOk {
		want.Queue = slices.Concat(d.Queue, []impl.Write{write(at, data)})
	}
	got, ok := impl.WriteSector(d, at, data)
	if ok != wantOk || !sameDisk(got, want) {
		t.Fatalf("WriteSector %s at %d of %s: %s %v, not %s %v", shortBytes(data), at, shortDisk(d), shortDisk(got), ok, shortDisk(want), wantOk)
	}
	return got, ok
}

func checkReadSector(t *testing.T, d impl.Disk, at int) {
	t.Helper()
	var want []byte
	wantOk := wantDiskOk(d) && at >= 0 && at < len(d.Bytes)/sectorSize
	if wantOk {
		want = wantSector(d, at, always)
	}
	got, ok := impl.ReadSector(d, at)
	if ok != wantOk || !bytes.Equal(got, want) {
		t.Fatalf("ReadSector %d of %s: %x %v, not %x %v", at, shortDisk(d), got, ok, want, wantOk)
	}
}

func checkSync(t *testing.T, d impl.Disk) impl.Disk {
	t.Helper()
	got, want := impl.Sync(d), wantSettled(d, always)
	if !sameDisk(got, want) {
		t.Fatalf("Sync of %s: %s, not %s", shortDisk(d), shortDisk(got), shortDisk(want))
	}
	return got
}

func checkCrash(t *testing.T, d impl.Disk, coins []byte) impl.Disk {
	t.Helper()
	got, want := impl.Crash(d, coins), wantSettled(d, func(i int) bool { return coin(coins, i) })
	if !sameDisk(got, want) {
		t.Fatalf("Crash of %s by %s: %s, not %s", shortDisk(d), shortBytes(coins), shortDisk(got), shortDisk(want))
	}
	return got
}

// checkDisk: what all calls tell about a disk.
func checkDisk(t *testing.T, d impl.Disk) {
	t.Helper()
	if impl.DiskOk(d) != wantDiskOk(d) {
		t.Fatal("DiskOk:", shortDisk(d))
	}
	sectors := len(d.Bytes) / sectorSize
	for _, at := range []int{math.MinInt, -sectors, -1, 0, 1, sectors / 2, sectors - 1, sectors, sectors + 1, mostDisk, 1 << 58, math.MaxInt} {
		checkReadSector(t, d, at)
		for _, size := range []int{0, 1, sectorSize - 1, sectorSize, sectorSize + 1, 2 * sectorSize} {
			checkWrite(t, d, at, bytes.Repeat([]byte{77}, size))
		}
	}
	checkSync(t, d)
	for _, coins := range [][]byte{nil, {}, {0}, {255}, {1}, {2}, {0x55, 0xaa}, bytes.Repeat([]byte{255}, 1+len(d.Queue)/8), make([]byte, 90)} {
		checkCrash(t, d, coins)
	}
}

// wrongDisks are none, by what is wrong with each.
func wrongDisks() map[string]impl.Disk {
	of := func(size int) impl.Disk { return impl.Disk{Bytes: bytes.Repeat([]byte{5}, size)} }
	list := map[string]impl.Disk{
		"no bytes":                        {},
		"no bytes, but a list":            {Bytes: []byte{}, Queue: []impl.Write{}},
		"no bytes, and a write":           {Queue: []impl.Write{write(0, filled(1))}},
		"one byte":                        of(1),
		"one byte too few":                of(sectorSize - 1),
		"one byte too many":               of(sectorSize + 1),
		"two sectors less one byte":       of(2*sectorSize - 1),
		"half a sector more":              of(3*sectorSize + sectorSize/2),
		"the most less one byte":          of(mostDisk*sectorSize - 1),
		"the most and one byte":           of(mostDisk*sectorSize + 1),
		"one more than the most":          of((mostDisk + 1) * sectorSize),
		"two more than the most":          of((mostDisk + 2) * sectorSize),
		"twice the most":                  of(2 * mostDisk * sectorSize),
		"as many sectors as bytes of one": of(mostDisk * sectorSize * sectorSize),
	}
	whole := []byte{1, 2, 3}
	for _, at := range []int{-1, -3, math.MinInt, 3, 4, sectorSize, mostDisk - 1, 1 << 57, 1 << 58, 1<<58 + 1, math.MaxInt} {
		list[fmt.Sprint("a write at ", at)] = diskOf(whole, write(at, filled(9)))
		list[fmt.Sprint("a first write at ", at)] = diskOf(whole, write(at, filled(9)), write(1, filled(8)), write(0, filled(7)))
		list[fmt.Sprint("a middle write at ", at)] = diskOf(whole, write(2, filled(9)), write(at, filled(8)), write(0, filled(7)))
		list[fmt.Sprint("a last write at ", at)] = diskOf(whole, write(0, filled(9)), write(1, filled(8)), write(at, filled(7)))
	}
	for _, size := range []int{0, 1, sectorSize - 1, sectorSize + 1, 2 * sectorSize} {
		data := bytes.Repeat([]byte{6}, size)
		list[fmt.Sprint("a write of ", size)] = diskOf(whole, write(1, data))
		list[fmt.Sprint("a first write of ", size)] = diskOf(whole, write(1, data), write(1, filled(8)), write(0, filled(7)))
		list[fmt.Sprint("a last write of ", size)] = diskOf(whole, write(1, filled(9)), write(1, filled(8)), write(2, data))
	}
	list["a write of no list"] = diskOf(whole, impl.Write{At: 1})
	list["a ninth write that is none"] = diskOf(whole, append(slices.Repeat([]impl.Write{write(0, filled(9))}, 8), write(3, filled(1)))...)
	return list
}

// rightDisks are disks.
func rightDisks() map[string]impl.Disk {
	all := make([]byte, mostDisk)
	for i := range all {
		all[i] = byte(i)
	}
	return map[string]impl.Disk{
		"new":                       impl.DiskNew(3),
		"one sector":                diskOf([]byte{4}),
		"one sector, written":       diskOf([]byte{4}, write(0, filled(5))),
		"two sectors":               diskOf([]byte{4, 5}),
		"the first and the last":    diskOf([]byte{1, 2, 3}, write(0, counted(40)), write(2, counted(50))),
		"one sector twice":          diskOf([]byte{1, 2, 3}, write(1, filled(40)), write(1, filled(50))),
		"one sector three times":    diskOf([]byte{1, 2, 3}, write(1, filled(40)), write(2, filled(60)), write(1, filled(50)), write(1, filled(40))),
		"written as it is":          diskOf([]byte{1, 2, 3}, write(1, filled(2)), write(0, filled(1))),
		"backward":                  diskOf([]byte{1, 2, 3}, write(2, filled(9)), write(1, filled(8)), write(0, filled(7))),
		"the most sectors":          diskOf(all),
		"the most less one":         diskOf(all[1:], write(mostDisk-2, counted(3))),
		"the most, all written":     diskOf(all, manyWrites(mostDisk, mostDisk)...),
		"many writes of one":        diskOf([]byte{1}, manyWrites(1, 200)...),
		"more writes than the most": diskOf([]byte{1, 2, 3, 4, 5}, manyWrites(5, 1000)...),
	}
}

// manyWrites are so many, of all sectors in turn, no two near each other alike.
func manyWrites(sectors, count int) []impl.Write {
	var out []impl.Write
	for i := range count {
		out = append(out, write(i%sectors, counted(byte(7*i+1))))
	}
	return out
}

func TestDiskConstants(t *testing.T) {
	if impl.SectorSize != 64 || impl.MaxSectors != 400 {
		t.Error("constants:", impl.SectorSize, impl.MaxSectors)
	}
}

func TestNewDisks(t *testing.T) {
	for _, sectors := range []int{1, 2, 3, 10, 63, 64, 65, mostDisk - 1, mostDisk} {
		d := impl.DiskNew(sectors)
		if !bytes.Equal(d.Bytes, make([]byte, sectors*sectorSize)) || len(d.Queue) != 0 || !impl.DiskOk(d) {
			t.Error("a new disk of", sectors, "is", shortDisk(d))
		}
		for _, at := range []int{0, sectors / 2, sectors - 1} {
			if got, ok := impl.ReadSector(d, at); !ok || !bytes.Equal(got, make([]byte, sectorSize)) {
				t.Error("a new sector:", at, got, ok)
			}
		}
		for _, at := range []int{-1, sectors} {
			if got, ok := impl.ReadSector(d, at); ok || len(got) != 0 {
				t.Error("a sector that is not there:", at, got, ok)
			}
		}
		checkDisk(t, d)
	}
	for _, sectors := range []int{0, -1, -2, -mostDisk, mostDisk + 1, mostDisk + 2, 2 * mostDisk, 1 << 32, 1 << 57, 1 << 58, 1<<58 + 1, -1 << 58, 1<<58 - 1, math.MaxInt, math.MinInt, math.MinInt + 1} {
		if d := impl.DiskNew(sectors); len(d.Bytes) != 0 || len(d.Queue) != 0 || impl.DiskOk(d) {
			t.Error("a new disk of", sectors, "is", shortDisk(d))
		}
	}
}

func TestRightDisks(t *testing.T) {
	for what, d := range rightDisks() {
		if !impl.DiskOk(d) {
			t.Error(what, "is no disk")
		}
		checkDisk(t, d)
	}
}

func TestWrongDisks(t *testing.T) {
	for what, d := range wrongDisks() {
		if impl.DiskOk(d) {
			t.Error(what, "is a disk")
		}
		if got, ok := impl.WriteSector(d, 0, filled(1)); ok || !sameDisk(got, d) {
			t.Error(what, "is written to:", shortDisk(got), ok)
		}
		for at := range 3 {
			if got, ok := impl.ReadSector(d, at); ok || len(got) != 0 {
				t.Error(what, "is read:", got, ok)
			}
		}
		if got := impl.Sync(d); !sameDisk(got, d) {
			t.Error(what, "is done:", shortDisk(got))
		}
		for _, coins := range [][]byte{nil, {0}, {255, 255}} {
			if got := impl.Crash(d, coins); !sameDisk(got, d) {
				t.Error(what, "is crashed:", shortDisk(got))
			}
		}
		checkDisk(t, d)
	}
}

// What is behind the length of a list makes no disk, and spoils none.
func TestDiskOkLooksAtTheLength(t *testing.T) {
	room := make([]byte, 3*sectorSize)
	if impl.DiskOk(impl.Disk{Bytes: room[:0]}) || impl.DiskOk(impl.Disk{Bytes: room[:sectorSize-1]}) || !impl.DiskOk(impl.Disk{Bytes: room[:sectorSize]}) {
		t.Error("the bytes behind")
	}
	queue := []impl.Write{write(0, filled(1)), write(7, filled(1))}
	if !impl.DiskOk(impl.Disk{Bytes: room, Queue: queue[:1]}) || impl.DiskOk(impl.Disk{Bytes: room, Queue: queue}) {
		t.Error("the writes behind")
	}
	if impl.DiskOk(impl.Disk{Bytes: room, Queue: []impl.Write{write(0, filled(1)[:sectorSize-1])}}) {
		t.Error("the data behind")
	}
	if _, ok := impl.WriteSector(impl.Disk{Bytes: room}, 0, filled(1)[:sectorSize-1]); ok {
		t.Error("the data behind")
	}
}

func TestWritesByExample(t *testing.T) {
	d := impl.DiskNew(4)
	for i, w := range []impl.Write{write(1, counted(10)), write(3, counted(20)), write(0, counted(30)), write(1, counted(40)), write(1, counted(50))} {
		var ok bool
		d, ok = impl.WriteSector(d, w.At, w.Data)
		if !ok || len(d.Queue) != i+1 || !sameWrite(d.Queue[i], w) {
			t.Fatal("the queue:", shortDisk(d), ok)
		}
		if !bytes.Equal(d.Bytes, make([]byte, 4*sectorSize)) {
			t.Fatal("a write is done ahead of its time:", shortDisk(d))
		}
		if got, ok := impl.ReadSector(d, w.At); !ok || !bytes.Equal(got, w.Data) {
			t.Fatal("the last write is not read:", got, ok)
		}
	}
	for at, want := range [][]byte{counted(30), counted(50), make([]byte, sectorSize), counted(20)} {
		if got, ok := impl.ReadSector(d, at); !ok || !bytes.Equal(got, want) {
			t.Error("ahead of Sync:", at, got, ok)
		}
	}
	done := impl.Sync(d)
	if len(done.Queue) != 0 || !bytes.Equal(done.Bytes, slices.Concat(counted(30), counted(50), make([]byte, sectorSize), counted(20))) {
		t.Error("behind Sync:", shortDisk(done))
	}
	for at := range 4 {
		before, _ := impl.ReadSector(d, at)
		if behind, ok := impl.ReadSector(done, at); !ok || !bytes.Equal(behind, before) {
			t.Error("read otherwise behind Sync:", at, behind, ok)
		}
	}
}

func TestWrongWrites(t *testing.T) {
	for what, d := range rightDisks() {
		sectors := len(d.Bytes) / sectorSize
		for _, at := range []int{-1, -2, -sectors, sectors, sectors + 1, sectors * sectorSize, mostDisk, mostDisk + 1, 1 << 57, 1 << 58, -1 << 58, math.MaxInt, math.MaxInt - 1, math.MinInt, math.MinInt + 1} {
			if got, ok := impl.WriteSector(d, at, filled(1)); ok || !sameDisk(got, d) {
				t.Error(what, "is written at", at, shortDisk(got), ok)
			}
			if got, ok := impl.ReadSector(d, at); ok || len(got) != 0 {
				t.Error(what, "is read at", at, got, ok)
			}
		}
		for _, size := range []int{0, 1, 32, sectorSize - 1, sectorSize + 1, 2 * sectorSize, 1000} {
			if got, ok := impl.WriteSector(d, 0, make([]byte, size)); ok || !sameDisk(got, d) {
				t.Error(what, "is written with", size, shortDisk(got), ok)
			}
		}
		if got, ok := impl.WriteSector(d, 0, nil); ok || !sameDisk(got, d) {
			t.Error(what, "is written with nothing:", shortDisk(got), ok)
		}
		for _, at := range []int{0, sectors - 1} {
			if _, ok := impl.WriteSector(d, at, filled(1)); !ok {
				t.Error(what, "is not written at", at)
			}
		}
	}
}

func TestTwoWritesOfOneSector(t *testing.T) {
	between := []impl.Write{write(0, filled(60)), write(2, filled(70))}
	for _, c := range []struct {
		what  string
		queue []impl.Write
		// The places of the two writes in the queue.
		first, second int
	}{
		{"side by side", []impl.Write{write(1, filled(40)), write(1, filled(50))}, 0, 1},
		{"others between", slices.Concat([]impl.Write{write(1, filled(40))}, between, []impl.Write{write(1, filled(50))}), 0, 3},
		{"others ahead", slices.Concat(between, []impl.Write{write(1, filled(40)), write(1, filled(50))}), 2, 3},
		{"in two bytes of coins", slices.Concat([]impl.Write{write(1, filled(40))}, slices.Repeat(between, 4), []impl.Write{write(1, filled(50))}), 0, 9},
		{"on both sides of a byte", slices.Concat(slices.Repeat(between[:1], 7), []impl.Write{write(1, filled(40)), write(1, filled(50))}), 7, 8},
	} {
		d := diskOf([]byte{1, 2, 3}, c.queue...)
		for _, kept := range []struct {
			first, second bool
			want          byte
		}{{false, false, 2}, {true, false, 40}, {false, true, 50}, {true, true, 50}} {
			coins := make([]byte, 2)
			if kept.first {
				coins[c.first/8] |= 1 << (c.first % 8)
			}
			if kept.second {
				coins[c.second/8] |= 1 << (c.second % 8)
			}
			got := checkCrash(t, d, coins)
			if !sameDisk(got, diskOf([]byte{1, kept.want, 3})) {
				t.Error(c.what, kept, shortDisk(got))
			}
		}
		if got, ok := impl.ReadSector(d, 1); !ok || got[0] != 50 {
			t.Error(c.what, "is read:", got, ok)
		}
		if got := impl.Sync(d); got.Bytes[sectorSize] != 50 {
			t.Error(c.what, "is done:", shortDisk(got))
		}
	}
}

// Each of these writes has a sector of its own, so that what a crash keeps is seen write by write.
func TestCoinsByLength(t *testing.T) {
	for _, count := range []int{0, 1, 2, 7, 8, 9, 15, 16, 17, 24, 25, 64, 65, 200, mostDisk} {
		d := impl.DiskNew(mostDisk)
		d.Queue = manyWrites(mostDisk, count)
		for _, length := range []int{0, 1, 2, 3, count / 8, (count + 7) / 8, count/8 + 1, count/8 + 2, 60} {
			for _, b := range []byte{0, 1, 2, 0x0f, 0x55, 0x80, 0xaa, 0xfe, 0xff} {
				coins := bytes.Repeat([]byte{b}, length)
				got := checkCrash(t, d, coins)
				for i, w := range d.Queue {
					want := make([]byte, sectorSize)
					if i/8 < length && b>>(i%8)%2 == 1 {
						want = w.Data
					}
					if !bytes.Equal(got.Bytes[i*sectorSize:][:sectorSize], want) {
						t.Fatal("write", i, "of", count, "by", length, "coins", b)
					}
				}
			}
		}
		// More coins than are asked for change nothing.
		enough := bytes.Repeat([]byte{0x6d}, (count+7)/8)
		if !sameDisk(impl.Crash(d, enough), impl.Crash(d, append(slices.Clone(enough), 0xff, 0xff))) {
			t.Error("more coins than are asked for:", count)
		}
	}
}

func TestOneCoin(t *testing.T) {
	const count = 26
	d := impl.DiskNew(count)
	d.Queue = manyWrites(count, count)
	for i := range count {
		coins := make([]byte, 4)
		coins[i/8] = 1 << (i % 8)
		want := make([]byte, count*sectorSize)
		copy(want[i*sectorSize:], d.Queue[i].Data)
		if got := impl.Crash(d, coins); !bytes.Equal(got.Bytes, want) || len(got.Queue) != 0 {
			t.Error("the coin of write", i, shortDisk(got))
		}
		// Without the byte of this write nothing is kept.
		if got := impl.Crash(d, coins[:i/8]); !sameDisk(got, impl.DiskNew(count)) {
			t.Error("too few coins:", i, shortDisk(got))
		}
	}
	// What is behind the length of the coins is no coin.
	if got := impl.Crash(d, bytes.Repeat([]byte{255}, 4)[:1]); !sameDisk(got, impl.Crash(d, []byte{255, 0, 0, 0})) {
		t.Error("coins behind the length:", shortDisk(got))
	}
}

// disk has few sectors, so that many of the queue's writes are of the same one.
func (d *dice) disk() impl.Disk {
	sectors := 1 + d.below(6)
	var first []byte
	for range sectors {
		first = append(first, byte(d.next()))
	}
	out := diskOf(first)
	for range d.below(30) {
		out.Queue = append(out.Queue, write(d.below(sectors), d.data()))
	}
	return out
}

func (d *dice) data() []byte { return d.bytes(sectorSize) }

func (d *dice) bytes(count int) []byte {
	out := make([]byte, count)
	for i := range out {
		out[i] = byte(d.next())
	}
	return out
}

// spoiltDisk is one that a crash or a fault elsewhere might hand in.
func (d *dice) spoiltDisk() impl.Disk {
	out := d.disk()
	switch d.below(4) {
	case 0:
		out.Bytes = out.Bytes[:d.below(len(out.Bytes))]
	case 1:
		out.Bytes = append(out.Bytes, d.bytes(d.below(2*sectorSize))...)
	case 2:
		out.Queue = append(out.Queue, write(d.below(12)-3, d.bytes(sectorSize-2+d.below(4))))
	case 3:
		if n := len(out.Queue); n > 0 {
			out.Queue[d.below(n)] = write(d.below(12)-3, d.bytes(sectorSize-2+d.below(4)))
		}
	}
	return out
}

func TestDisksByChance(t *testing.T) {
	d := &dice{119}
	right, wrong := 0, 0
	for range rounds {
		disk := d.disk()
		if d.below(2) == 0 {
			disk = d.spoiltDisk()
		}
		ok := wantDiskOk(disk)
		if impl.DiskOk(disk) != ok {
			t.Fatal("DiskOk:", shortDisk(disk))
		}
		if ok {
			right++
		} else {
			wrong++
		}
		checkReadSector(t, disk, d.below(10)-2)
		checkWrite(t, disk, d.below(10)-2, d.bytes(sectorSize-d.below(2)))
		checkSync(t, disk)
		checkCrash(t, disk, d.bytes(d.below(6)))
	}
	if right < rounds/2 || wrong < rounds/8 {
		t.Error("too few of a kind:", right, wrong)
	}
}

// A disk goes through many calls, beside one that the test keeps by itself.
func TestDisksInTheLongRun(t *testing.T) {
	d := &dice{120}
	for range 60 {
		sectors := 1 + d.below(9)
		disk := impl.DiskNew(sectors)
		for range 80 {
			switch d.below(12) {
			case 0:
				disk = checkSync(t, disk)
			case 1:
				disk = checkCrash(t, disk, d.bytes(d.below(4)))
			default:
				disk, _ = checkWrite(t, disk, d.below(sectors+1), d.bytes(sectorSize-d.below(9)/8))
			}
			checkReadSector(t, disk, d.below(sectors))
			if !impl.DiskOk(disk) || len(disk.Bytes) != sectors*sectorSize {
				t.Fatal("no disk any more:", shortDisk(disk))
			}
		}
	}
}

func checkFollows(t *testing.T, disk impl.Disk, coins []byte) {
	t.Helper()
	done := impl.Sync(disk)
	if !sameDisk(impl.Crash(done, coins), done) || !sameDisk(impl.Sync(done), done) {
		t.Fatal("changed behind Sync:", shortDisk(done))
	}
	if all := bytes.Repeat([]byte{255}, (len(disk.Queue)+7)/8); !sameDisk(impl.Crash(disk, all), done) {
		t.Fatal("a crash that keeps all is no Sync:", shortDisk(disk))
	}
	if got := impl.Crash(disk, make([]byte, len(coins))); !bytes.Equal(got.Bytes, disk.Bytes) || !sameDisk(got, impl.Crash(disk, nil)) {
		t.Fatal("a crash that loses all changes bytes:", shortDisk(disk))
	}
	behind := impl.Crash(disk, coins)
	if len(behind.Bytes) != len(disk.Bytes) || len(behind.Queue) != 0 || !impl.DiskOk(behind) {
		t.Fatal("no disk behind a crash:", shortDisk(behind))
	}
	for at := range len(disk.Bytes) / sectorSize {
		one := disk.Bytes[at*sectorSize:][:sectorSize]
		got := behind.Bytes[at*sectorSize:][:sectorSize]
		known := bytes.Equal(got, one) || slices.ContainsFunc(disk.Queue, func(w impl.Write) bool {
			return w.At == at && bytes.Equal(got, w.Data)
		})
		if !known {
			t.Fatal("a sector that it neither was nor was to be:", at, shortBytes(got), shortDisk(disk))
		}
	}
	if again := impl.Crash(behind, coins); !sameDisk(again, behind) {
		t.Fatal("a second crash changes something:", shortDisk(behind))
	}
}

func TestWhatFollowsOfDisks(t *testing.T) {
	d := &dice{121}
	for what, disk := range inOrder(rightDisks()) {
		t.Log(what)
		for range 8 {
			checkFollows(t, disk, d.bytes(d.below(60)))
		}
	}
	for range rounds {
		checkFollows(t, d.disk(), d.bytes(d.below(6)))
	}
}

// roomyDisk has marks behind the length of each of its lists; the second answer tells whether all of it is as it was.
func roomyDisk(d impl.Disk) (impl.Disk, func() bool) {
	room := func(b []byte) []byte { return append(slices.Clone(b), filled(0xcd)...)[:len(b)] }
	queue := make([]impl.Write, 0, len(d.Queue)+3)
	for _, w := range d.Queue {
		queue = append(queue, write(w.At, room(w.Data)))
	}
	behind := append(queue, write(-7, filled(1)), write(-8, filled(2)))[len(queue):]
	out := impl.Disk{Bytes: room(d.Bytes), Queue: queue}
	return out, func() bool {
		marked := func(b []byte) bool { return bytes.Equal(b[len(b):len(b)+sectorSize], filled(0xcd)) }
		ok := sameDisk(out, d) && marked(out.Bytes)
		for _, w := range out.Queue {
			ok = ok && marked(w.Data)
		}
		return ok && sameWrite(behind[0], write(-7, filled(1))) && sameWrite(behind[1], write(-8, filled(2)))
	}
}

// overwriteDisk writes into all memory that a disk hands out, its spare room too.
func overwriteDisk(d impl.Disk) {
	overwriteBytes(d.Bytes)
	queue := d.Queue[:cap(d.Queue)]
	for i := range queue {
		overwriteBytes(queue[i].Data)
		queue[i].At ^= 0x55
		queue[i].Data = nil
	}
}

// disksForMemory are of all kinds that an answer is made of in another way.
func disksForMemory() []impl.Disk {
	d := &dice{122}
	var list []impl.Disk
	for _, disk := range inOrder(rightDisks()) {
		list = append(list, disk)
	}
	for _, disk := range inOrder(wrongDisks()) {
		if len(disk.Bytes) <= 2*mostDisk*sectorSize {
			list = append(list, disk)
		}
	}
	for range 40 {
		list = append(list, d.disk(), d.spoiltDisk())
	}
	return list
}

// diskCalls are all calls that answer a disk.
func diskCalls(data, coins []byte) map[string]func(impl.Disk) impl.Disk {
	return map[string]func(impl.Disk) impl.Disk{
		"WriteSector":          func(d impl.Disk) impl.Disk { out, _ := impl.WriteSector(d, 0, data); return out },
		"WriteSector, no such": func(d impl.Disk) impl.Disk { out, _ := impl.WriteSector(d, -1, data); return out },
		"WriteSector, short":   func(d impl.Disk) impl.Disk { out, _ := impl.WriteSector(d, 0, data[1:]); return out },
		"Sync":                 impl.Sync,
		"Crash":                func(d impl.Disk) impl.Disk { return impl.Crash(d, coins) },
		"Crash, no coins":      func(d impl.Disk) impl.Disk { return impl.Crash(d, nil) },
	}
}

func TestDiskCallsLeaveTheirArguments(t *testing.T) {
	for _, disk := range disksForMemory() {
		given, same := roomyDisk(disk)
		room := append(counted(1), filled(0xcd)...)
		coins := append([]byte{0x5a, 0xff}, filled(0xcd)...)
		data, few := room[:sectorSize], coins[:2]
		for what, call := range inOrder(diskCalls(data, few)) {
			call(given)
			if !same() {
				t.Fatal(what, "changes its disk:", shortDisk(disk))
			}
			if !bytes.Equal(room, append(counted(1), filled(0xcd)...)) || !bytes.Equal(coins, append([]byte{0x5a, 0xff}, filled(0xcd)...)) {
				t.Fatal(what, "changes its data or its coins")
			}
		}
		impl.DiskOk(given)
		for at := range 3 {
			impl.ReadSector(given, at)
		}
		if !same() {
			t.Fatal("a question changes a disk:", shortDisk(disk))
		}
	}
}

func TestDisksAreTheirOwn(t *testing.T) {
	for _, disk := range disksForMemory() {
		data, coins := counted(1), []byte{0x5a, 0xff, 1}
		for what, call := range diskCalls(data, coins) {
			given := clonedDisk(disk)
			kept, other := call(given), call(given)
			want := clonedDisk(kept)
			overwriteDisk(other)
			if !sameDisk(kept, want) || !sameDisk(given, disk) || !bytes.Equal(data, counted(1)) || !bytes.Equal(coins, []byte{0x5a, 0xff, 1}) {
				t.Fatal(what, "answers what is not its own:", shortDisk(disk))
			}
			if !sameDisk(call(given), want) {
				t.Fatal(what, "answers otherwise later:", shortDisk(disk))
			}
			overwriteDisk(given)
			if !sameDisk(kept, want) {
				t.Fatal(what, "hangs on its disk:", shortDisk(disk))
			}
		}
		given := clonedDisk(disk)
		kept, _ := impl.WriteSector(given, 0, data)
		want := clonedDisk(kept)
		overwriteBytes(data)
		if !sameDisk(kept, want) {
			t.Fatal("WriteSector hangs on its data:", shortDisk(disk))
		}
	}
}

// The lists of one answer share nothing, even where those of the argument did.
func TestListsOfOneDiskAreTheirOwn(t *testing.T) {
	whole := counted(1)
	shared := impl.Disk{Bytes: append(slices.Clone(whole), whole...)}
	one := shared.Bytes[:sectorSize]
	shared.Queue = []impl.Write{write(0, one), write(1, one), write(0, shared.Bytes[sectorSize:]), write(1, whole), write(1, whole)}
	spoilt := impl.Disk{Bytes: shared.Bytes, Queue: append(slices.Clone(shared.Queue), write(2, one))}
	for _, disk := range []impl.Disk{shared, spoilt} {
		for what, call := range diskCalls(one, []byte{0x0b}) {
			got := call(disk)
			want := clonedDisk(got)
			for i := range got.Queue {
				overwriteBytes(got.Queue[i].Data)
				for j, w := range got.Queue {
					if j != i && !sameWrite(w, want.Queue[j]) {
						t.Fatal(what, "has two writes that share memory:", i, j)
					}
				}
				if !bytes.Equal(got.Bytes, want.Bytes) {
					t.Fatal(what, "has a write that shares memory with the bytes:", i)
				}
				overwriteBytes(got.Queue[i].Data)
			}
			overwriteBytes(got.Bytes)
			for j, w := range got.Queue {
				if !sameWrite(w, want.Queue[j]) {
					t.Fatal(what, "has a write that shares memory with the bytes:", j)
				}
			}
		}
	}
}

func TestSectorsReadAreTheirOwn(t *testing.T) {
	for _, disk := range disksForMemory() {
		given := clonedDisk(disk)
		for at := range len(disk.Bytes) / sectorSize {
			kept, _ := impl.ReadSector(given, at)
			want := slices.Clone(kept)
			other, _ := impl.ReadSector(given, at)
			overwriteBytes(other)
			if !bytes.Equal(kept, want) || !sameDisk(given, disk) {
				t.Fatal("a sector that is not its own:", at, shortDisk(disk))
			}
			if again, _ := impl.ReadSector(given, at); !bytes.Equal(again, want) {
				t.Fatal("a sector is read otherwise later:", at, shortDisk(disk))
			}
			if at < 3 {
				spoilt := clonedDisk(disk)
				kept, _ := impl.ReadSector(spoilt, at)
				overwriteDisk(spoilt)
				if !bytes.Equal(kept, want) {
					t.Fatal("a sector hangs on its disk:", at, shortDisk(disk))
				}
			}
		}
	}
	first, second := impl.DiskNew(2), impl.DiskNew(2)
	overwriteDisk(first)
	if !sameDisk(second, impl.DiskNew(2)) || !bytes.Equal(second.Bytes, make([]byte, 2*sectorSize)) {
		t.Error("new disks share memory")
	}
}

// What was refused, or asked for ahead, leaves nothing behind.
func TestDiskCallsKeepNothing(t *testing.T) {
	d := &dice{123}
	type given struct {
		disk        impl.Disk
		at          int
		data, coins []byte
	}
	var all []given
	for i := range 300 {
		g := given{d.disk(), d.below(8) - 1, d.data(), d.bytes(d.below(5))}
		switch i % 3 {
		case 0:
			g.disk = d.spoiltDisk()
		case 1:
			g.data = g.data[d.below(3):]
		}
		all = append(all, g)
	}
	tell := func(g given) string {
		written, ok := impl.WriteSector(g.disk, g.at, g.data)
		read, there := impl.ReadSector(g.disk, g.at)
		return fmt.Sprint(impl.DiskOk(g.disk), written, ok, read, there, impl.Sync(g.disk), impl.Crash(g.disk, g.coins), impl.DiskNew(g.at))
	}
	var first []string
	for _, g := range all {
		first = append(first, tell(g))
	}
	for i, g := range slices.Backward(all) {
		if tell(g) != first[i] {
			t.Error("another answer later:", i, g.at)
		}
	}
}
