package tests

import (
	"encoding/binary"
	"encoding/hex"
	"fmt"
	"math"
	"slices"
	"strings"
	"testing"

	"loop.example/g00108/impl"
)

const mostWhole = 1 << 53

func typesOfKinds() map[int]uint32 {
	return map[int]uint32{impl.ShapePoint: 1, impl.ShapeLine: 2, impl.ShapeArea: 3, impl.ShapePoints: 4, impl.ShapeLines: 5}
}

// field is a number or a byte in the bytes of a shape, and what chapter 8 wants of it.
type field struct {
	what  string
	at    int
	order binary.ByteOrder
	part  uint32 // the type that a part has; 0 of a whole shape
	most  int    // how many a count may be
}

const (
	orderField = "order"
	typeField  = "type"
	countField = "count"
	ringField  = "count of a ring"
	floatField = "float"
)

func (f field) size() int {
	return map[string]int{orderField: 1, typeField: 4, countField: 4, ringField: 4, floatField: 8}[f.what]
}

// with is b with another value in this field.
func (f field) with(b []byte, value uint64) []byte {
	b = slices.Clone(b)
	switch f.size() {
	case 1:
		b[f.at] = byte(value)
	case 4:
		f.order.PutUint32(b[f.at:], uint32(value))
	case 8:
		f.order.PutUint64(b[f.at:], value)
	}
	return b
}

// wrongValue is what may not stand in a field, and the code of it.
type wrongValue struct {
	value uint64
	code  int
}

func (f field) wrongValues() []wrongValue {
	var out []wrongValue
	add := func(code int, values ...uint64) {
		for _, v := range values {
			out = append(out, wrongValue{v, code})
		}
	}
	switch f.what {
	case orderField:
		for v := uint64(2); v < 256; v++ {
			add(impl.BytesOrder, v)
		}
	case typeField:
		add(impl.BytesType, 0, 6, 7, 255, 256, 257, 1<<16, 1<<16+1, 1<<24, 2<<24, 3<<24, 4<<24, 5<<24, 1<<24+1, 1<<31, 1<<31+2, math.MaxUint32)
		for v := uint64(1); v < 6; v++ {
			if f.part != 0 && v != uint64(f.part) {
				add(impl.BytesType, v)
			}
		}
	case ringField:
		add(impl.BytesRing, 0)
		fallthrough
	case countField:
		most := uint64(f.most)
		add(impl.BytesCount, most+1, most+2, 2*most, 255, 256, 257, 1<<16, 1<<24, 2<<24, most<<24, 1<<31, 1<<31+1, math.MaxUint32)
	case floatField:
		for _, x := range []float64{0.5, -0.5, 1.5, -2.25, 0.1, most + 1, -most - 1, most + 0.5, -most - 0.5, most - 0.5, 2 * most, 1 << 53, -1 << 53, 1 << 54, 1e300, -1e300, 5e-324, -5e-324, math.Inf(1), math.Inf(-1), math.NaN()} {
			add(impl.BytesFloat, math.Float64bits(x))
		}
		add(impl.BytesFloat, math.MaxUint64, 1, 1<<63+1, 1<<63-1)
	}
	return out
}

// byteForm writes shapes, good or not, as chapter 8 tells, by what the library has of floats and of orders of bytes; and keeps where it wrote what.
type byteForm struct {
	orders func() byte
	bytes  []byte
	fields []field
	order  binary.ByteOrder
}

func (f *byteForm) put(what string, value uint64, part uint32, most int) {
	one := field{what, len(f.bytes), f.order, part, most}
	f.bytes = one.with(append(f.bytes, make([]byte, one.size())...), value)
	f.fields = append(f.fields, one)
}

func (f *byteForm) head(kind int, part uint32) {
	order := f.orders()
	f.put(orderField, uint64(order), 0, 0)
	f.order = map[byte]binary.ByteOrder{0: binary.BigEndian, 1: binary.LittleEndian}[order]
	f.put(typeField, uint64(typesOfKinds()[kind]), part, 0)
}

func (f *byteForm) points(row []impl.Pt) {
	for _, p := range row {
		f.put(floatField, math.Float64bits(float64(p.X)), 0, 0)
		f.put(floatField, math.Float64bits(float64(p.Y)), 0, 0)
	}
}

func (f *byteForm) shape(s impl.Shape, part uint32) {
	f.head(s.Kind, part)
	switch s.Kind {
	case impl.ShapePoint:
		f.points(s.Rings[0])
	case impl.ShapeLine:
		f.put(countField, uint64(len(s.Rings[0])), 0, impl.MaxRing)
		f.points(s.Rings[0])
	case impl.ShapePoints:
		f.put(countField, uint64(len(s.Rings[0])), 0, impl.MaxRing)
		for _, p := range s.Rings[0] {
			f.shape(point(p.X, p.Y), 1)
		}
	case impl.ShapeLines:
		f.put(countField, uint64(len(s.Rings)), 0, impl.MaxRings)
		for _, row := range s.Rings {
			f.shape(shape(impl.ShapeLine, row), 2)
		}
	case impl.ShapeArea:
		f.put(countField, uint64(len(s.Rings)), 0, impl.MaxRings)
		for _, row := range s.Rings {
			f.put(ringField, uint64(len(row)+1), 0, impl.MaxRing+1)
			f.points(row)
			f.points(row[:min(1, len(row))])
		}
	}
}

// inOrders writes s: the whole in the first order, its parts in the others, by turns (like the whole, if there are none).
func inOrders(s impl.Shape, orders ...byte) *byteForm {
	asked := 0
	f := &byteForm{orders: func() byte {
		asked++
		if asked == 1 || len(orders) == 1 {
			return orders[0]
		}
		return orders[1+(asked-2)%(len(orders)-1)]
	}}
	f.shape(s, 0)
	return f
}

// manyOrders are for inOrders.
func manyOrders() [][]byte {
	return [][]byte{{1}, {0}, {1, 0}, {0, 1}, {1, 0, 1}, {0, 1, 0}, {1, 1, 0}, {0, 0, 1}, {0, 1, 1, 0}, {1, 0, 0, 1}}
}

// hasParts: its bytes have an order for each of its parts.
func hasParts(s impl.Shape) bool { return s.Kind == impl.ShapePoints || s.Kind == impl.ShapeLines }

// wantReader reads the bytes of a shape by what the library has of floats and of orders of bytes; it gives up by a panic with a code and a place.
type wantReader struct {
	rest  []byte
	at    int
	order binary.ByteOrder
}

func (w *wantReader) take(n int) ([]byte, int) {
	if len(w.rest) < n {
		panic([2]int{impl.BytesEnd, w.at})
	}
	got, at := w.rest[:n], w.at
	w.rest, w.at = w.rest[n:], w.at+n
	return got, at
}

func (w *wantReader) refuse(wrong bool, code, place int) {
	if wrong {
		panic([2]int{code, place})
	}
}

func (w *wantReader) head(types ...uint32) uint32 {
	order, at := w.take(1)
	w.refuse(order[0] > 1, impl.BytesOrder, at)
	w.order = []binary.ByteOrder{binary.BigEndian, binary.LittleEndian}[order[0]]
	b, at := w.take(4)
	n := w.order.Uint32(b)
	w.refuse(!slices.Contains(types, n), impl.BytesType, at)
	return n
}

func (w *wantReader) count(most uint32) (uint32, int) {
	b, at := w.take(4)
	w.refuse(w.order.Uint32(b) > most, impl.BytesCount, at)
	return w.order.Uint32(b), at
}

func (w *wantReader) coord() int {
	b, at := w.take(8)
	x := math.Float64frombits(w.order.Uint64(b))
	w.refuse(x != math.Trunc(x) || math.IsNaN(x) || math.Abs(x) > most, impl.BytesFloat, at)
	return int(x)
}

func (w *wantReader) row(n uint32) []impl.Pt {
	var out []impl.Pt
	for range n {
		x := w.coord()
		out = append(out, pt(x, w.coord()))
	}
	return out
}

func (w *wantReader) line() []impl.Pt {
	n, _ := w.count(impl.MaxRing)
	return w.row(n)
}

func (w *wantReader) ring() []impl.Pt {
	n, at := w.count(impl.MaxRing + 1)
	w.refuse(n == 0, impl.BytesRing, at)
	row := w.row(n)
	w.refuse(row[n-1] != row[0], impl.BytesRing, w.at-16)
	return row[:n-1]
}

func (w *wantReader) shape() impl.Shape {
	switch w.head(1, 2, 3, 4, 5) {
	case 1:
		return shape(impl.ShapePoint, w.row(1))
	case 2:
		return shape(impl.ShapeLine, w.line())
	case 3:
		s := area()
		n, _ := w.count(impl.MaxRings)
		for range n {
			s.Rings = append(s.Rings, w.ring())
		}
		return s
	case 4:
		n, _ := w.count(impl.MaxRing)
		var all []impl.Pt
		for range n {
			w.head(1)
			all = append(all, w.row(1)...)
		}
		return shape(impl.ShapePoints, all)
	}
	s := lines()
	n, _ := w.count(impl.MaxRings)
	for range n {
		w.head(2)
		s.Rings = append(s.Rings, w.line())
	}
	return s
}

// wantGet tells what GetShape answers.
func wantGet(b []byte) (s impl.Shape, code, place int) {
	defer func() {
		if r := recover(); r != nil {
			found := r.([2]int)
			s, code, place = impl.Shape{}, found[0], found[1]
		}
	}()
	if len(b) > 30000 {
		return impl.Shape{}, impl.BytesLong, 0
	}
	w := &wantReader{rest: b}
	s = w.shape()
	w.refuse(len(w.rest) > 0, impl.BytesBehind, w.at)
	w.refuse(!good(s), impl.BytesShape, 0)
	return s, impl.BytesGood, 0
}

func shortBytes(b []byte) string {
	if len(b) > 120 {
		return fmt.Sprintf("%x .. (%d bytes)", b[:120], len(b))
	}
	return fmt.Sprintf("%x", b)
}

// checkRead holds GetShape against the test's own reader, and tells its code.
func checkRead(t *testing.T, b []byte) int {
	t.Helper()
	wantShape, wantCode, wantPlace := wantGet(b)
	s, code, place := impl.GetShape(b)
	if code != wantCode || place != wantPlace || !impl.SameShape(s, wantShape) {
		t.Fatalf("GetShape of %s: %v %d %d, not %v %d %d", shortBytes(b), s, code, place, wantShape, wantCode, wantPlace)
	}
	return code
}

// checkGet: GetShape refuses b with this code, at this place, and so does the test's own reader.
func checkGet(t *testing.T, what string, b []byte, code, place int) {
	t.Helper()
	s, gotCode, gotPlace := impl.GetShape(b)
	if gotCode != code || gotPlace != place {
		t.Errorf("%s: %s: %d %d, not %d %d", what, shortBytes(b), gotCode, gotPlace, code, place)
	}
	if s.Kind != 0 || len(s.Rings) != 0 {
		t.Errorf("%s: beside %d: %v", what, code, s)
	}
	checkRead(t, b)
}

func checkGetGood(t *testing.T, what string, b []byte, want impl.Shape) {
	t.Helper()
	s, code, place := impl.GetShape(b)
	if code != impl.BytesGood || place != 0 || !impl.SameShape(s, want) {
		t.Errorf("%s: %s: %v %d %d, not %v", what, shortBytes(b), s, code, place, want)
	}
}

// checkPut: the bytes of a good shape are as they must be, and it comes back of them.
func checkPut(t *testing.T, s impl.Shape) []byte {
	t.Helper()
	b := impl.PutShape(s)
	if want := inOrders(s, 1).bytes; !slices.Equal(b, want) {
		t.Errorf("PutShape of %v: %s, not %s", s, shortBytes(b), shortBytes(want))
	}
	checkGetGood(t, "PutShape", b, s)
	checkRead(t, b)
	return b
}

func checkNoBytes(t *testing.T, s impl.Shape) {
	t.Helper()
	if b := impl.PutShape(s); len(b) != 0 {
		t.Errorf("%v has bytes: %s", s, shortBytes(b))
	}
}

func TestBytesNumbers(t *testing.T) {
	if impl.MaxShapeBytes != 30000 {
		t.Error("the limit")
	}
	codes := []int{impl.BytesGood, impl.BytesEnd, impl.BytesOrder, impl.BytesType, impl.BytesCount, impl.BytesFloat, impl.BytesRing, impl.BytesShape, impl.BytesBehind, impl.BytesLong}
	if !slices.Equal(codes, []int{0, 20, 21, 22, 23, 24, 25, 26, 27, 28}) {
		t.Error("the codes:", codes)
	}
}

// checkFloat: n has the float that the library has, and comes back of it.
func checkFloat(t *testing.T, n int) {
	t.Helper()
	b := impl.FloatOf(n)
	if want := int(math.Float64bits(float64(n))); b != want {
		t.Errorf("FloatOf of %d: %#x, not %#x", n, uint64(b), uint64(want))
	}
	if got, ok := impl.IntOf(b); got != n || !ok {
		t.Errorf("IntOf of FloatOf of %d: %d %v", n, got, ok)
	}
}

func TestFloatsByExample(t *testing.T) {
	for n, want := range map[int]uint64{
		0: 0, 1: 0x3ff0000000000000, -1: 0xbff0000000000000, 2: 0x4000000000000000, -2: 0xc000000000000000, 3: 0x4008000000000000, -3: 0xc008000000000000, 4: 0x4010000000000000, 5: 0x4014000000000000, 6: 0x4018000000000000, 7: 0x401c000000000000, 8: 0x4020000000000000, 9: 0x4022000000000000, 10: 0x4024000000000000, -10: 0xc024000000000000, 100: 0x4059000000000000, 255: 0x406fe00000000000, 256: 0x4070000000000000, -1000: 0xc08f400000000000,
		10000000: 0x416312d000000000, -10000000: 0xc16312d000000000, 9999999: 0x416312cfe0000000, 123456789: 0x419d6f3454000000,
		1<<52 - 1: 0x432ffffffffffffe, 1 << 52: 0x4330000000000000, 1<<52 + 1: 0x4330000000000001, 1<<53 - 2: 0x433ffffffffffffe, 1<<53 - 1: 0x433fffffffffffff, 1 << 53: 0x4340000000000000,
		1 - 1<<52: 0xc32ffffffffffffe, -1 << 52: 0xc330000000000000, 2 - 1<<53: 0xc33ffffffffffffe, 1 - 1<<53: 0xc33fffffffffffff, -1 << 53: 0xc340000000000000,
	} {
		if b := impl.FloatOf(n); uint64(b) != want {
			t.Errorf("FloatOf of %d: %#x, not %#x", n, uint64(b), want)
		}
		if got, ok := impl.IntOf(int(want)); got != n || !ok {
			t.Errorf("IntOf of %#x: %d %v, not %d", want, got, ok, n)
		}
	}
}

func TestFloatsOfSmallNumbers(t *testing.T) {
	for n := range 70000 {
		checkFloat(t, n)
		checkFloat(t, -n)
	}
}

func TestFloatsOfPowersOfTwo(t *testing.T) {
	for place := range 54 {
		for by := -40; by <= 40; by++ {
			if n := 1<<place + by; n <= mostWhole {
				checkFloat(t, n)
				checkFloat(t, -n)
			}
		}
		// Two bits, however far from one another.
		for other := range place {
			if n := 1<<place + 1<<other; n <= mostWhole {
				checkFloat(t, n)
				checkFloat(t, -n)
			}
			checkFloat(t, 1<<place-1<<other)
			checkFloat(t, 1<<other-1<<place)
		}
	}
}

func TestFloatsOfNumbersByChance(t *testing.T) {
	d := &dice{81}
	for range 50 * rounds {
		n := int(d.next()>>10) >> d.below(54) // up to 2^54
		if n > mostWhole {
			continue
		}
		checkFloat(t, n)
		checkFloat(t, -n)
		checkFloat(t, mostWhole-n)
		checkFloat(t, n-mostWhole)
	}
}

// Of numbers past 2^53 both ways there is none, even where the library has one.
func TestFloatsOfNumbersPast(t *testing.T) {
	list := []int{math.MaxInt, math.MaxInt - 1, math.MinInt, math.MinInt + 1, 0x4330000000000000, 0x3ff0000000000000}
	for by := 1; by < 1000; by++ {
		list = append(list, mostWhole+by, -mostWhole-by)
	}
	for place := 54; place < 63; place++ {
		list = append(list, 1<<place, -1<<place, 1<<place-1, 1-1<<place, 1<<place+1, -1<<place-1, 1<<place+3, 3<<(place-2), -3<<(place-2))
	}
	d := &dice{82}
	for range rounds {
		list = append(list, mostWhole+1+int(d.next()>>2), -mostWhole-1-int(d.next()>>2))
	}
	for _, n := range list {
		if b := impl.FloatOf(n); b != 0 {
			t.Errorf("FloatOf of %d: %#x", n, uint64(b))
		}
	}
}

// checkInt holds IntOf against the library.
func checkInt(t *testing.T, b uint64) bool {
	t.Helper()
	x := math.Float64frombits(b)
	want, wantOk := 0, x == math.Trunc(x) && math.Abs(x) <= mostWhole
	if wantOk {
		want = int(x)
	}
	n, ok := impl.IntOf(int(b))
	if n != want || ok != wantOk {
		t.Fatalf("IntOf of %#x (%v): %d %v, not %d %v", b, x, n, ok, want, wantOk)
	}
	if ok && b != 1<<63 && uint64(impl.FloatOf(n)) != b {
		t.Fatalf("IntOf of %#x is %d, whose FloatOf is %#x", b, n, uint64(impl.FloatOf(n)))
	}
	return ok
}

func TestIntOfByExample(t *testing.T) {
	for _, c := range []struct {
		what string
		bits uint64
		n    int
		ok   bool
	}{
		{"0", 0, 0, true},
		{"-0", 1 << 63, 0, true},
		{"the least int", 0x8000000000000000, 0, true},
		{"the least int and 1", 0x8000000000000001, 0, false},
		{"the greatest int", 0x7fffffffffffffff, 0, false},
		{"-1 as an int", 0xffffffffffffffff, 0, false},
		{"1 as an int", 1, 0, false},
		{"the least above 0 with all its bits", 0x0010000000000000, 0, false},
		{"1/2", 0x3fe0000000000000, 0, false},
		{"-1/2", 0xbfe0000000000000, 0, false},
		{"the last one below 1", 0x3fefffffffffffff, 0, false},
		{"1", 0x3ff0000000000000, 1, true},
		{"the next one above 1", 0x3ff0000000000001, 0, false},
		{"3/2", 0x3ff8000000000000, 0, false},
		{"-3/2", 0xbff8000000000000, 0, false},
		{"2", 0x4000000000000000, 2, true},
		{"5/2", 0x4004000000000000, 0, false},
		{"a number and a half, as great as may be", 0x432fffffffffffff, 0, false},
		{"2^52", 0x4330000000000000, 1 << 52, true},
		{"2^52 and 1", 0x4330000000000001, 1<<52 + 1, true},
		{"2^53 - 1", 0x433fffffffffffff, 1<<53 - 1, true},
		{"2^53", 0x4340000000000000, 1 << 53, true},
		{"2^53 and 2", 0x4340000000000001, 0, false},
		{"2^54 - 2", 0x434fffffffffffff, 0, false},
		{"2^54", 0x4350000000000000, 0, false},
		{"-2^53", 0xc340000000000000, -1 << 53, true},
		{"-2^53 - 2", 0xc340000000000001, 0, false},
		{"-2^54", 0xc350000000000000, 0, false},
		{"2^62", 0x43d0000000000000, 0, false},
		{"2^63", 0x43e0000000000000, 0, false},
		{"-2^63", 0xc3e0000000000000, 0, false},
		{"2^64", 0x43f0000000000000, 0, false},
		{"2^117, whose place is 2^53's but for 64", 0x4740000000000000, 0, false},
		{"2^1023", 0x7fe0000000000000, 0, false},
		{"the greatest", 0x7fefffffffffffff, 0, false},
		{"no number is above it", 0x7ff0000000000000, 0, false},
		{"no number is below it", 0xfff0000000000000, 0, false},
		{"none", 0x7ff8000000000000, 0, false},
		{"none, of the least bit", 0x7ff0000000000001, 0, false},
		{"none, below 0", 0xfff8000000000000, 0, false},
	} {
		if n, ok := impl.IntOf(int(c.bits)); n != c.n || ok != c.ok {
			t.Errorf("%s: %d %v", c.what, n, ok)
		}
		checkInt(t, c.bits)
	}
}

// Each place of the highest bit, with each bit below it, and with all from some bit on.
func TestIntOfEachPlace(t *testing.T) {
	for place := range uint64(2048) {
		for _, sign := range []uint64{0, 1 << 63} {
			top := sign | place<<52
			checkInt(t, top)
			for i := range 52 {
				checkInt(t, top|1<<i)
				checkInt(t, top|(1<<i-1))
				checkInt(t, top|(1<<52-1<<i))
				checkInt(t, top|1<<51|1<<i)
			}
		}
	}
}

func TestIntOfBitsByChance(t *testing.T) {
	d := &dice{83}
	oks := map[bool]int{}
	for range 20 * rounds {
		oks[checkInt(t, d.next())]++
		// Near the whole numbers: the last bits are often 0.
		place := uint64(1023 + d.below(56))
		oks[checkInt(t, d.next()&(1<<63)|place<<52|d.next()>>12>>d.below(53)<<d.below(53)&(1<<52-1))]++
		n := int(d.next()>>11) >> d.below(53)
		b := math.Float64bits(float64(n))
		for by := range uint64(3) {
			oks[checkInt(t, b+by)]++
			oks[checkInt(t, b-by)]++
		}
	}
	if oks[true] < 1000 || oks[false] < 1000 {
		t.Error("the test itself is wrong:", oks)
	}
}

// bytesOf reads hexadecimal digits: blanks are left out, <n> is n's float, the lowest byte first, <<n>> the highest.
func bytesOf(t *testing.T, text string) []byte {
	t.Helper()
	floats := map[string]string{"0": "0000000000000000", "1": "3ff0000000000000", "2": "4000000000000000", "3": "4008000000000000", "4": "4010000000000000", "5": "4014000000000000", "9": "4022000000000000", "-2": "c000000000000000", "-7": "c01c000000000000", "most": "416312d000000000", "-most": "c16312d000000000", "-0": "8000000000000000", "half": "3fe0000000000000", "none": "7ff8000000000000"}
	for name, great := range floats {
		b, _ := hex.DecodeString(great)
		slices.Reverse(b)
		text = strings.ReplaceAll(text, "<<"+name+">>", great)
		text = strings.ReplaceAll(text, "<"+name+">", hex.EncodeToString(b))
	}
	b, err := hex.DecodeString(strings.ReplaceAll(text, " ", ""))
	if err != nil {
		t.Fatal("the test itself is wrong:", text, err)
	}
	return b
}

// shapesInBytes are good shapes and their bytes, as bytesOf reads them.
func shapesInBytes() []written {
	return []written{
		{point(1, -2), "01 01000000 <1> <-2>"},
		{point(0, 0), "01 01000000 0000000000000000 0000000000000000"},
		{point(most, -most), "01 01000000 00000000d0126341 00000000d01263c1"},
		{point(-7, 9), "01 01000000 0000000000001cc0 0000000000002240"},
		{points(3, 4), "01 04000000 01000000 01 01000000 <3> <4>"},
		{points(1, 2, 1, 2), "01 04000000 02000000 01 01000000 <1> <2> 01 01000000 <1> <2>"},
		{points(0, 0, -7, 9, most, -most), "01 04000000 03000000 01 01000000 <0> <0> 01 01000000 <-7> <9> 01 01000000 <most> <-most>"},
		{line(0, 0, 5, 5), "01 02000000 02000000 <0> <0> <5> <5>"},
		{line(1, 9, 0, 0, -2, 9), "01 02000000 03000000 <1> <9> <0> <0> <-2> <9>"},
		{line(0, 0, 5, 5, 0, 0), "01 02000000 03000000 <0> <0> <5> <5> <0> <0>"},
		{line(-most, -most, most, most), "01 02000000 02000000 <-most> <-most> <most> <most>"},
		{lines(row(0, 0, 1, 1)), "01 05000000 01000000 01 02000000 02000000 <0> <0> <1> <1>"},
		{lines(row(0, 0, 1, 1), row(2, 2, 3, 3, 2, 2)), "01 05000000 02000000 01 02000000 02000000 <0> <0> <1> <1> 01 02000000 03000000 <2> <2> <3> <3> <2> <2>"},
		{area(row(0, 0, 1, 0, 0, 1)), "01 03000000 01000000 04000000 <0> <0> <1> <0> <0> <1> <0> <0>"},
		{area(row(-most, -most, most, -most, most, most)), "01 03000000 01000000 04000000 <-most> <-most> <most> <-most> <most> <most> <-most> <-most>"},
		{area(square(0, 0, 9), row(1, 1, 1, 2, 2, 1)), "01 03000000 02000000 05000000 <0> <0> <9> <0> <9> <9> <0> <9> <0> <0> 04000000 <1> <1> <1> <2> <2> <1> <1> <1>"},
		{area(row(0, 0, 9, 0, 9, 9, 0, 9), row(1, 1, 1, 2, 2, 1), row(3, 3, 4, 5, 5, 4)), "01 03000000 03000000 05000000 <0> <0> <9> <0> <9> <9> <0> <9> <0> <0> 04000000 <1> <1> <1> <2> <2> <1> <1> <1> 04000000 <3> <3> <4> <5> <5> <4> <3> <3>"},
	}
}

func TestShapesAndTheirBytes(t *testing.T) {
	for _, c := range shapesInBytes() {
		b := bytesOf(t, c.text)
		if got := impl.PutShape(c.s); !slices.Equal(got, b) {
			t.Errorf("PutShape of %v: %s, not %s", c.s, shortBytes(got), shortBytes(b))
		}
		checkGetGood(t, "as bytes", b, c.s)
		checkPut(t, c.s)
	}
}

// The same shapes with other bytes: other orders, and -0.
func TestOtherBytesOfShapes(t *testing.T) {
	for _, c := range []written{
		{point(1, -2), "00 00000001 <<1>> <<-2>>"},
		{point(0, 0), "00 00000001 0000000000000000 0000000000000000"},
		{point(most, -most), "00 00000001 416312d000000000 c16312d000000000"},
		{line(0, 0, 5, 5), "00 00000002 00000002 <<0>> <<0>> <<5>> <<5>>"},
		{area(row(0, 0, 1, 0, 0, 1)), "00 00000003 00000001 00000004 <<0>> <<0>> <<1>> <<0>> <<0>> <<1>> <<0>> <<0>>"},
		{area(square(0, 0, 9), row(1, 1, 1, 2, 2, 1)), "00 00000003 00000002 00000005 <<0>> <<0>> <<9>> <<0>> <<9>> <<9>> <<0>> <<9>> <<0>> <<0>> 00000004 <<1>> <<1>> <<1>> <<2>> <<2>> <<1>> <<1>> <<1>>"},
		{points(3, 4), "00 00000004 00000001 00 00000001 <<3>> <<4>>"},
		{points(3, 4), "00 00000004 00000001 01 01000000 <3> <4>"},
		{points(3, 4), "01 04000000 01000000 00 00000001 <<3>> <<4>>"},
		{points(3, 4, 1, 2, 5, 9), "00 00000004 00000003 01 01000000 <3> <4> 00 00000001 <<1>> <<2>> 01 01000000 <5> <9>"},
		{points(3, 4, 1, 2, 5, 9), "01 04000000 03000000 00 00000001 <<3>> <<4>> 01 01000000 <1> <2> 00 00000001 <<5>> <<9>>"},
		{points(3, 4, 1, 2), "01 04000000 02000000 00 00000001 <<3>> <<4>> 00 00000001 <<1>> <<2>>"},
		{lines(row(0, 0, 1, 1)), "00 00000005 00000001 00 00000002 00000002 <<0>> <<0>> <<1>> <<1>>"},
		{lines(row(0, 0, 1, 1)), "00 00000005 00000001 01 02000000 02000000 <0> <0> <1> <1>"},
		{lines(row(0, 0, 1, 1)), "01 05000000 01000000 00 00000002 00000002 <<0>> <<0>> <<1>> <<1>>"},
		{lines(row(0, 0, 1, 1), row(2, 2, 3, 3)), "00 00000005 00000002 01 02000000 02000000 <0> <0> <1> <1> 00 00000002 00000002 <<2>> <<2>> <<3>> <<3>>"},
		{lines(row(0, 0, 1, 1), row(2, 2, 3, 3)), "01 05000000 02000000 00 00000002 00000002 <<0>> <<0>> <<1>> <<1>> 01 02000000 02000000 <2> <2> <3> <3>"},
		{point(0, 0), "01 01000000 <-0> <0>"},
		{point(0, 0), "00 00000001 <<0>> <<-0>>"},
		{points(0, 0), "01 04000000 01000000 01 01000000 <-0> <-0>"},
		{line(0, 0, 5, 0), "01 02000000 02000000 <-0> <0> <5> <-0>"},
		// What is the same point is the first one, whatever its bytes are.
		{area(row(0, 0, 1, 0, 0, 1)), "01 03000000 01000000 04000000 <0> <-0> <1> <0> <-0> <1> <-0> <0>"},
	} {
		b := bytesOf(t, c.text)
		checkGetGood(t, c.text, b, c.s)
		checkRead(t, b)
	}
}

func TestGoodShapesComeBackOfTheirBytes(t *testing.T) {
	for what, s := range goodShapes() {
		t.Log(what)
		checkPut(t, s)
		for _, orders := range manyOrders() {
			checkGetGood(t, fmt.Sprint(what, orders), inOrders(s, orders...).bytes, s)
		}
	}
}

// Rows of just MaxRing points, and shapes of just MaxRings rows; of one more a count tells.
func TestBytesAtTheLimits(t *testing.T) {
	for _, c := range []struct {
		s    impl.Shape
		size int
	}{
		{shape(impl.ShapePoints, bow(-30, -900, impl.MaxRing)), 9 + 60*21},
		{shape(impl.ShapeLine, bow(-30, -900, impl.MaxRing)), 9 + 60*16},
		{lines(bow(-30, -900, impl.MaxRing)), 9 + 9 + 60*16},
		{lines(repeated(impl.MaxRings, row(0, 0, 1, 1))...), 9 + 12*(9+2*16)},
		{lines(repeated(impl.MaxRings, bow(0, 0, impl.MaxRing))...), 9 + 12*(9+60*16)},
		{area(bow(0, 0, impl.MaxRing)), 9 + 4 + 61*16},
		{frameAnd(impl.MaxRings-1, 3), 9 + 4 + 61*16 + 11*(4+4*16)},
		{frameAnd(impl.MaxRings-1, impl.MaxRing), 9 + 12*(4+61*16)},
	} {
		if b := checkPut(t, c.s); len(b) != c.size {
			t.Error("not so many bytes:", len(b), c.size)
		}
		checkGetGood(t, "the highest byte first", inOrders(c.s, 0).bytes, c.s)
	}
	for _, c := range []struct {
		what  string
		s     impl.Shape
		place int
	}{
		{"points", shape(impl.ShapePoints, bow(-30, -900, impl.MaxRing+1)), 5},
		{"a line", shape(impl.ShapeLine, bow(-30, -900, impl.MaxRing+1)), 5},
		{"a line of lines", lines(bow(-30, -900, impl.MaxRing+1)), 14},
		{"the second line of lines", lines(row(0, 0, 1, 1), bow(0, 0, impl.MaxRing+1)), 14 + 4 + 2*16 + 5},
		{"lines", lines(repeated(impl.MaxRings+1, row(0, 0, 1, 1))...), 5},
		{"a ring", area(bow(0, 0, impl.MaxRing+1)), 9},
		{"a hole", frameAnd(1, impl.MaxRing+1), 9 + 4 + 61*16},
		{"rings", frameAnd(impl.MaxRings, 3), 5},
		{"far more lines", lines(repeated(300, row(0, 0, 1, 1))...), 5},
		{"a far longer line", shape(impl.ShapeLine, bow(0, 0, 900)), 5},
	} {
		checkNoBytes(t, c.s)
		for _, orders := range manyOrders() {
			checkGet(t, c.what, inOrders(c.s, orders...).bytes, impl.BytesCount, c.place)
		}
	}
}

// formsToBreak are the bytes of good shapes of each kind, in many orders.
func formsToBreak() []*byteForm {
	var out []*byteForm
	for _, s := range []impl.Shape{
		point(1, -2), points(3, 4), points(0, 0, -7, 9, most, -most), line(0, 0, 5, 5), line(-1, 10, 0, 0, 1, 10), lines(row(0, 0, 1, 1)), lines(row(0, 0, 1, 1), row(2, 2, 3, 3, 2, 2)),
		area(row(0, 0, 1, 0, 0, 1)), area(square(0, 0, 9), row(1, 1, 1, 2, 2, 1)),
	} {
		for _, orders := range manyOrders() {
			if hasParts(s) || len(orders) == 1 {
				out = append(out, inOrders(s, orders...))
			}
		}
	}
	return out
}

// Cut at any place, the bytes end within, or ahead of, the number or byte that the next one would belong to.
func TestBytesThatAreCut(t *testing.T) {
	list := formsToBreak()
	for _, s := range inOrder(goodShapes()) {
		list = append(list, inOrders(s, 1), inOrders(s, 0), inOrders(s, 1, 0))
	}
	for _, f := range list {
		for _, one := range f.fields {
			for n := one.at; n < one.at+one.size(); n++ {
				// The rest lies behind, in the same memory.
				if s, code, place := impl.GetShape(f.bytes[:n]); code != impl.BytesEnd || place != one.at || s.Kind != 0 || len(s.Rings) != 0 {
					t.Fatalf("%s cut at %d: %v %d %d, not at %d", shortBytes(f.bytes), n, s, code, place, one.at)
				}
			}
		}
		last := f.fields[len(f.fields)-1]
		if last.at+last.size() != len(f.bytes) {
			t.Error("the test itself is wrong")
		}
	}
}

func TestBytesThatEndEarly(t *testing.T) {
	checkGet(t, "no bytes", nil, impl.BytesEnd, 0)
	checkGet(t, "no bytes", []byte{}, impl.BytesEnd, 0)
	for text, place := range map[string]int{
		"01": 1, "00": 1, "01 01": 1, "01 0100": 1, "01 010000": 1, "01 ffffff": 1, "00 000000": 1,
		"01 01000000": 5, "01 01000000 00": 5, "01 01000000 00000000f03f00": 5, "01 01000000 <1>": 13, "01 01000000 <1> 00000000000000": 13, "00 00000001 <<1>> 40": 13,
		"01 02000000": 5, "01 02000000 020000": 5, "01 02000000 02000000": 9, "01 02000000 02000000 <1> <1>": 25, "01 02000000 02000000 <1> <1> <2>": 33, "01 02000000 3c000000": 9, "00 00000002 0000003c": 9,
		"01 03000000": 5, "01 03000000 01000000": 9, "01 03000000 01000000 040000": 9, "01 03000000 01000000 04000000": 13, "01 03000000 0c000000": 9, "01 03000000 01000000 3d000000": 13, "01 03000000 01000000 04000000 <0> <0> <1> <0> <0> <1>": 61, "01 03000000 01000000 04000000 <0> <0> <1> <0> <0> <1> <0>": 69, "01 03000000 02000000 04000000 <0> <0> <1> <0> <0> <1> <0> <0>": 77,
		"01 04000000": 5, "01 04000000 01000000": 9, "01 04000000 01000000 01": 10, "01 04000000 01000000 01 01000000": 14, "01 04000000 02000000 01 01000000 <1> <2>": 30, "01 04000000 02000000 01 01000000 <1> <2> 00 000000": 31, "01 04000000 3c000000": 9,
		"01 05000000": 5, "01 05000000 01000000": 9, "01 05000000 01000000 01": 10, "01 05000000 01000000 01 02000000": 14, "01 05000000 01000000 01 02000000 02000000": 18, "01 05000000 0c000000": 9, "00 00000005 0000000c": 9,
		// A ring's last point is not its first one, but it is not there whole either.
		"01 03000000 01000000 04000000 <0> <0> <1> <0> <0> <1> <5>": 69,
	} {
		checkGet(t, text, bytesOf(t, text), impl.BytesEnd, place)
	}
}

// Each number and byte of each form is wrong in each way.
func TestEachFieldThatIsWrong(t *testing.T) {
	codes := map[int]int{}
	for _, f := range formsToBreak() {
		for _, one := range f.fields {
			for _, w := range one.wrongValues() {
				checkGet(t, one.what, one.with(f.bytes, w.value), w.code, one.at)
				codes[w.code]++
			}
		}
	}
	for _, code := range []int{impl.BytesOrder, impl.BytesType, impl.BytesCount, impl.BytesFloat, impl.BytesRing} {
		if codes[code] < 5 {
			t.Error("the test itself is wrong:", codes)
		}
	}
}

func TestWrongOrdersAndTypes(t *testing.T) {
	for _, c := range []struct {
		text        string
		code, place int
	}{
		{"02", impl.BytesOrder, 0}, {"ff", impl.BytesOrder, 0}, {"80", impl.BytesOrder, 0}, {"31 01000000 <1> <2>", impl.BytesOrder, 0},
		{"01 04000000 01000000 02 01000000 <3> <4>", impl.BytesOrder, 9}, {"01 05000000 01000000 ff", impl.BytesOrder, 9}, {"01 04000000 02000000 01 01000000 <3> <4> 02", impl.BytesOrder, 30},
		{"01 00000000", impl.BytesType, 1}, {"01 06000000", impl.BytesType, 1}, {"01 07000000", impl.BytesType, 1}, {"01 00000001", impl.BytesType, 1}, {"00 01000000", impl.BytesType, 1}, {"01 ffffffff", impl.BytesType, 1}, {"01 01010000", impl.BytesType, 1}, {"00 00000006", impl.BytesType, 1}, {"01 01000080", impl.BytesType, 1}, {"01 e9030000 <1> <2> <3>", impl.BytesType, 1},
		{"01 04000000 01000000 01 02000000 02000000 <0> <0> <1> <1>", impl.BytesType, 10}, {"01 04000000 01000000 01 03000000", impl.BytesType, 10}, {"01 04000000 01000000 01 04000000", impl.BytesType, 10}, {"01 04000000 01000000 01 05000000", impl.BytesType, 10}, {"01 04000000 01000000 01 00000000", impl.BytesType, 10}, {"01 04000000 01000000 01 06000000", impl.BytesType, 10},
		{"01 05000000 01000000 01 01000000 <1> <2>", impl.BytesType, 10}, {"01 05000000 01000000 01 03000000", impl.BytesType, 10}, {"01 05000000 01000000 01 04000000", impl.BytesType, 10}, {"01 05000000 01000000 01 05000000", impl.BytesType, 10}, {"01 05000000 01000000 01 00000000", impl.BytesType, 10},
		// The order of the whole is not that of its parts, nor that of a part the next one's.
		{"00 00000004 00000001 01 00000001 <<3>> <<4>>", impl.BytesType, 10}, {"01 04000000 01000000 00 01000000 <3> <4>", impl.BytesType, 10}, {"00 00000005 00000001 01 00000002", impl.BytesType, 10}, {"01 05000000 01000000 00 02000000", impl.BytesType, 10},
		{"01 04000000 02000000 00 00000001 <<3>> <<4>> 01 00000001", impl.BytesType, 31}, {"01 04000000 02000000 01 01000000 <3> <4> 00 01000000", impl.BytesType, 31},
		{"00 00000004 01000000 00 00000001 <<3>> <<4>>", impl.BytesCount, 5}, {"01 05000000 01000000 00 00000002 02000000", impl.BytesCount, 14}, {"00 00000005 00000001 01 02000000 00000002", impl.BytesCount, 14}, {"01 04000000 01000000 00 00000001 <3> <4>", impl.BytesFloat, 14}, {"01 04000000 01000000 01 01000000 <<3>> <<4>>", impl.BytesFloat, 14},
	} {
		checkGet(t, c.text, bytesOf(t, c.text), c.code, c.place)
	}
}

func TestWrongCountsAndFloats(t *testing.T) {
	for _, c := range []struct {
		text        string
		code, place int
	}{
		{"01 02000000 3d000000", impl.BytesCount, 5}, {"01 04000000 3d000000", impl.BytesCount, 5}, {"01 03000000 0d000000", impl.BytesCount, 5}, {"01 05000000 0d000000", impl.BytesCount, 5}, {"01 05000000 3c000000", impl.BytesCount, 5}, {"01 03000000 3c000000", impl.BytesCount, 5},
		{"00 00000002 0000003d", impl.BytesCount, 5}, {"00 00000004 0000003d", impl.BytesCount, 5}, {"00 00000003 0000000d", impl.BytesCount, 5}, {"00 00000005 0000000d", impl.BytesCount, 5},
		{"01 02000000 ffffffff", impl.BytesCount, 5}, {"01 03000000 ffffffff", impl.BytesCount, 5}, {"01 04000000 00000080", impl.BytesCount, 5}, {"01 05000000 00010000", impl.BytesCount, 5},
		{"01 05000000 01000000 01 02000000 3d000000", impl.BytesCount, 14}, {"01 05000000 01000000 00 00000002 0000003d", impl.BytesCount, 14},
		{"01 03000000 01000000 3e000000", impl.BytesCount, 9}, {"00 00000003 00000001 0000003e", impl.BytesCount, 9}, {"01 03000000 01000000 ffffffff", impl.BytesCount, 9}, {"01 03000000 0c000000 3e000000", impl.BytesCount, 9},
		{"01 01000000 <half> <1>", impl.BytesFloat, 5}, {"01 01000000 <1> <half>", impl.BytesFloat, 13}, {"00 00000001 <<1>> <<none>>", impl.BytesFloat, 13}, {"01 01000000 <none> <none>", impl.BytesFloat, 5}, {"01 01000000 <<1>> <<1>>", impl.BytesFloat, 5},
		{"01 01000000 00000020d0126341 <0>", impl.BytesFloat, 5}, {"01 01000000 <0> 00000020d01263c1", impl.BytesFloat, 13}, {"01 01000000 010000d0d0126341 <0>", impl.BytesFloat, 5}, {"01 01000000 0100000000000000 <0>", impl.BytesFloat, 5}, {"01 01000000 0000000000004043 <0>", impl.BytesFloat, 5},
		{"01 02000000 02000000 <0> <0> <1> <half>", impl.BytesFloat, 33}, {"01 02000000 02000000 <0> <0> <half>", impl.BytesFloat, 25}, {"01 04000000 02000000 01 01000000 <1> <2> 00 00000001 <<1>> <<half>>", impl.BytesFloat, 43}, {"01 05000000 01000000 00 00000002 00000001 <<half>>", impl.BytesFloat, 18},
		{"01 03000000 01000000 04000000 <0> <0> <1> <0> <0> <half>", impl.BytesFloat, 53}, {"01 03000000 01000000 04000000 <0> <0> <1> <0> <0> <1> <half>", impl.BytesFloat, 61},
		// A ring's last point is not its first one, but its Y is no whole number either.
		{"01 03000000 01000000 04000000 <0> <0> <1> <0> <0> <1> <5> <half>", impl.BytesFloat, 69},
	} {
		checkGet(t, c.text, bytesOf(t, c.text), c.code, c.place)
	}
}

func TestWrongRings(t *testing.T) {
	const good = "04000000 <0> <0> <9> <0> <0> <9> <0> <0>" // 68 bytes
	for _, c := range []struct {
		text        string
		code, place int
	}{
		{"01 03000000 01000000 00000000", impl.BytesRing, 9}, {"00 00000003 00000001 00000000", impl.BytesRing, 9}, {"01 03000000 01000000 00000000 " + good, impl.BytesRing, 9}, {"01 03000000 02000000 " + good + " 00000000", impl.BytesRing, 77}, {"01 03000000 0c000000 00000000", impl.BytesRing, 9},
		{"01 03000000 01000000 04000000 <0> <0> <1> <0> <0> <1> <0> <1>", impl.BytesRing, 61}, {"01 03000000 01000000 04000000 <0> <0> <1> <0> <0> <1> <1> <0>", impl.BytesRing, 61}, {"00 00000003 00000001 00000004 <<0>> <<0>> <<1>> <<0>> <<0>> <<1>> <<1>> <<1>>", impl.BytesRing, 61},
		{"01 03000000 01000000 04000000 <1> <2> <3> <2> <1> <4> <2> <1>", impl.BytesRing, 61}, {"01 03000000 01000000 04000000 <2> <2> <3> <2> <1> <4> <-2> <2>", impl.BytesRing, 61},
		{"01 03000000 01000000 03000000 <0> <0> <1> <0> <0> <1>", impl.BytesRing, 45}, {"01 03000000 01000000 02000000 <0> <0> <1> <0>", impl.BytesRing, 29}, {"01 03000000 01000000 05000000 <0> <0> <1> <0> <0> <1> <0> <0> <1> <0>", impl.BytesRing, 77},
		{"01 03000000 02000000 " + good + " 04000000 <1> <1> <1> <2> <2> <1> <1> <2>", impl.BytesRing, 77 + 4 + 48}, {"01 03000000 02000000 " + good + " 04000000 <1> <1> <1> <2> <2> <1> <0> <0>", impl.BytesRing, 77 + 4 + 48}, {"01 03000000 02000000 04000000 <0> <0> <9> <0> <0> <9> <0> <1> 00000000", impl.BytesRing, 61},
		// A ring of none, one or two points has a last one that is its first one.
		{"01 03000000 01000000 01000000 <0> <0>", impl.BytesShape, 0}, {"01 03000000 01000000 02000000 <0> <0> <0> <0>", impl.BytesShape, 0}, {"01 03000000 01000000 03000000 <0> <0> <1> <0> <0> <0>", impl.BytesShape, 0}, {"01 03000000 02000000 " + good + " 01000000 <1> <1>", impl.BytesShape, 0},
	} {
		checkGet(t, c.text, bytesOf(t, c.text), c.code, c.place)
	}
}

// Bytes that are read to their end, but their shape is not good.
func TestBytesOfShapesThatAreNotGood(t *testing.T) {
	for _, text := range []string{
		"01 02000000 00000000", "01 03000000 00000000", "01 04000000 00000000", "01 05000000 00000000", "00 00000002 00000000", "00 00000003 00000000", "00 00000004 00000000", "00 00000005 00000000",
		"01 05000000 01000000 01 02000000 00000000", "01 05000000 01000000 00 00000002 00000000", "01 05000000 01000000 01 02000000 01000000 <1> <2>", "01 02000000 01000000 <1> <2>", "01 02000000 02000000 <1> <2> <1> <2>", "01 02000000 02000000 <0> <0> <-0> <-0>",
	} {
		checkGet(t, text, bytesOf(t, text), impl.BytesShape, 0)
	}
	for _, s := range []impl.Shape{
		line(1, 1), line(1, 1, 1, 1), line(0, 0, 1, 1, 1, 1), lines(row(1, 1)), lines(row(0, 0, 1, 1), row(2, 2)), lines(row(2, 2), row(0, 0, 1, 1)), lines(row(0, 0, 1, 1), row(2, 2, 2, 2)),
		area(row(0, 0)), area(row(0, 0, 9, 0)), area(row(0, 0, 9, 0, 9, 0, 0, 9)), area(row(0, 0, 9, 0, 0, 9, 0, 0)), area(row(0, 0, 9, 9, 9, 0, 0, 9)), area(row(0, 0, 9, 0, 4, 0)), area(row(0, 0, 0, 9, 9, 0)), area(row(0, 0, 5, 5, 9, 9)),
		area(square(0, 0, 20), square(5, 5, 5)), area(square(0, 0, 20), hole(15, 15, 10)), area(square(0, 0, 20), hole(30, 30, 5)), area(square(0, 0, 20), hole(2, 2, 5), hole(2, 2, 5)), area(square(0, 0, 20), hole(2, 2, 9), hole(3, 3, 5)), area(square(0, 0, 20), row(1, 1, 1, 2)), area(hole(0, 0, 9)),
	} {
		checkNoBytes(t, s)
		for _, orders := range manyOrders() {
			b := inOrders(s, orders...).bytes
			checkGet(t, fmt.Sprint(s), b, impl.BytesShape, 0)
			// What is behind comes ahead of whether the shape is good.
			checkGet(t, fmt.Sprint(s), append(b, 0), impl.BytesBehind, len(b))
		}
	}
	for what, s := range wrongShapes() {
		checkNoBytes(t, s)
		if len(s.Rings) > 0 {
			t.Log(what)
			checkRead(t, inOrders(s, 1).bytes)
			checkRead(t, inOrders(s, 0).bytes)
		}
	}
}

func TestShapesWithoutBytes(t *testing.T) {
	for _, s := range append(spoiltShapes(), point(mostWhole, 0), shape(impl.ShapePoint, row(1, 2, 3, 4))) {
		checkNoBytes(t, s)
	}
}

func TestBytesBehindShapes(t *testing.T) {
	for _, f := range formsToBreak() {
		n := len(f.bytes)
		for _, behind := range [][]byte{{0}, {1}, {2}, {255}, {0, 0, 0, 0}, make([]byte, 8), make([]byte, 16), make([]byte, 1000), f.bytes, {1, 1, 0, 0, 0}} {
			checkGet(t, "behind", slices.Concat(f.bytes, behind), impl.BytesBehind, n)
		}
	}
	for text, place := range map[string]int{
		"01 01000000 <1> <2> 00": 21, "01 02000000 00000000 00": 9, "01 03000000 00000000 00": 9, "01 04000000 00000000 01": 9, "01 05000000 00000000 01": 9, "01 02000000 01000000 <1> <2> <3> <4>": 25, "01 04000000 01000000 01 01000000 <1> <2> 01 01000000 <1> <2>": 30, "01 03000000 01000000 01000000 <0> <0> 00": 29,
	} {
		checkGet(t, text, bytesOf(t, text), impl.BytesBehind, place)
	}
}

func TestLongBytes(t *testing.T) {
	const limit = impl.MaxShapeBytes
	for _, f := range formsToBreak() {
		padded := slices.Concat(f.bytes, make([]byte, limit))
		checkGet(t, "as many as may be", padded[:limit], impl.BytesBehind, len(f.bytes))
		checkGet(t, "one less", padded[:limit-1], impl.BytesBehind, len(f.bytes))
		checkGet(t, "one more", padded[:limit+1], impl.BytesLong, 0)
		checkGet(t, "more", padded, impl.BytesLong, 0)
	}
	for _, wrong := range []string{"02", "ff", "01 06000000", "01 02000000 3d000000", "01 01000000 <half>", "01 03000000 01000000 00000000", "01 02000000 00000000"} {
		begun := bytesOf(t, wrong)
		padded := slices.Concat(begun, make([]byte, limit+1-len(begun)))
		checkGet(t, wrong, padded, impl.BytesLong, 0)
		if _, code, _ := impl.GetShape(padded[:limit]); code == impl.BytesLong || code == impl.BytesGood {
			t.Error(wrong, code)
		}
		checkRead(t, padded[:limit])
	}
	checkGet(t, "noughts", make([]byte, limit), impl.BytesType, 1)
	checkGet(t, "noughts, one more", make([]byte, limit+1), impl.BytesLong, 0)
	checkGet(t, "far too many", make([]byte, 1000*limit), impl.BytesLong, 0)
}

// Where two are wrong, that which is read first counts; likewise where one is wrong and the bytes are cut behind it, or go on behind the shape.
func TestWhichBytesFaultComesFirst(t *testing.T) {
	for _, f := range formsToBreak() {
		for i, one := range f.fields {
			values := one.wrongValues()
			for k, w := range []wrongValue{values[0], values[len(values)-1], values[len(values)/2]} {
				b := one.with(f.bytes, w.value)
				for _, other := range f.fields[i+1:] {
					checkGet(t, one.what+" and "+other.what, other.with(b, other.wrongValues()[k].value), w.code, one.at)
				}
				for n := one.at + one.size(); n <= len(b); n++ {
					checkGet(t, one.what+" and cut", b[:n], w.code, one.at)
				}
				for n := one.at; n < one.at+one.size(); n++ {
					checkGet(t, one.what+", itself cut", b[:n], impl.BytesEnd, one.at)
				}
				checkGet(t, one.what+" and more behind", append(b, 7), w.code, one.at)
				checkGet(t, one.what+" and far more behind", append(b, make([]byte, impl.MaxShapeBytes)...), impl.BytesLong, 0)
			}
		}
	}
}

// Each byte is once each other one.
func TestBytesWithOneChanged(t *testing.T) {
	codes := map[int]int{}
	for _, f := range formsToBreak() {
		b := slices.Clone(f.bytes)
		for place := range b {
			for v := range 256 {
				b[place] = byte(v)
				codes[checkRead(t, b)]++
			}
			b[place] = f.bytes[place]
		}
	}
	for _, code := range []int{impl.BytesGood, impl.BytesEnd, impl.BytesOrder, impl.BytesType, impl.BytesCount, impl.BytesFloat, impl.BytesRing, impl.BytesShape, impl.BytesBehind} {
		if codes[code] < 50 {
			t.Error("the test itself is wrong:", codes)
		}
	}
}

// moveBytes calls with b's bytes doubled, left out, or in other places, up to so many of them.
func moveBytes(b []byte, most int, call func([]byte)) {
	for place := range b {
		call(b[place:])
		call(slices.Concat(b[place:], b[:place]))
		for n := 1; n <= most && place+n <= len(b); n++ {
			call(slices.Concat(b[:place], b[place+n:]))
			call(slices.Concat(b[:place+n], b[place:]))
			turned := slices.Clone(b)
			slices.Reverse(turned[place : place+n])
			call(turned)
		}
	}
}

func TestBytesThatAreMoved(t *testing.T) {
	for _, f := range formsToBreak() {
		moveBytes(f.bytes, 21, func(b []byte) { checkRead(t, b) })
	}
}

// Fields with other values, right ones too, several at once.
func TestFieldsByChance(t *testing.T) {
	d := &dice{84}
	codes := map[int]int{}
	list := formsToBreak()
	for range 20 * rounds {
		f := list[d.below(len(list))]
		b := f.bytes
		for range 1 + d.below(3) {
			one := f.fields[d.below(len(f.fields))]
			value := map[string]uint64{
				orderField: uint64(d.below(3)),
				typeField:  uint64(d.below(7)),
				countField: uint64(d.below(4)),
				ringField:  uint64(d.below(7)),
				floatField: math.Float64bits(float64(d.below(12) - 1)),
			}[one.what]
			if d.below(8) == 0 {
				value = one.wrongValues()[d.below(len(one.wrongValues()))].value
			}
			b = one.with(b, value)
		}
		codes[checkRead(t, b)]++
	}
	for code := impl.BytesEnd; code <= impl.BytesBehind; code++ {
		if codes[code] < 50 || codes[impl.BytesGood] < 50 {
			t.Error("the test itself is wrong:", codes)
		}
	}
}

// Any bytes at all, and those of a good shape with several of them changed.
func TestAnyBytesByChance(t *testing.T) {
	d := &dice{85}
	list := formsToBreak()
	for range 5 * rounds {
		var b []byte
		for range d.below(60) {
			b = append(b, byte(d.next()>>d.below(2)*uint64(d.below(2))))
		}
		checkRead(t, b)
		b = slices.Clone(list[d.below(len(list))].bytes)
		for range 1 + d.below(4) {
			at := d.below(len(b))
			switch d.below(3) {
			case 0:
				b[at] = byte(d.below(6))
			case 1:
				b = slices.Insert(b, at, byte(d.below(256)))
			default:
				b[at] ^= 1 << d.below(8)
			}
		}
		checkRead(t, b)
	}
}

// Shapes of all kinds, good ones and others, by their bytes.
func TestShapesInBytesByChance(t *testing.T) {
	d := &dice{86}
	codes := map[[2]int]int{}
	orders := manyOrders()
	for i := range 3 * rounds {
		s := d.turnAbout(i)
		b := inOrders(s, orders[d.below(len(orders))]...).bytes
		code := checkRead(t, b)
		codes[[2]int{s.Kind, code}]++
		if good(s) {
			checkPut(t, s)
			checkGetGood(t, "by chance", b, s)
		} else {
			checkNoBytes(t, s)
		}
	}
	for _, kind := range allKinds() {
		if codes[[2]int{kind, impl.BytesGood}] < 100 {
			t.Error("the test itself is wrong:", codes)
		}
	}
	if codes[[2]int{impl.ShapeArea, impl.BytesShape}] < 100 {
		t.Error("the test itself is wrong:", codes)
	}
}

// Each coordinate there is near the limits, and some between, comes back.
func TestCoordinatesInBytes(t *testing.T) {
	d := &dice{87}
	list := []int{-1, 0, 1}
	for by := range 100 {
		list = append(list, most-by, by-most)
	}
	for range rounds {
		list = append(list, d.coord())
	}
	for _, x := range list {
		checkPut(t, point(x, -x))
		checkGetGood(t, "the highest byte first", inOrders(point(-x, x), 0).bytes, point(-x, x))
	}
	for by := 1; by < 100; by++ {
		for _, x := range []int{most + by, -most - by} {
			checkGet(t, "X", inOrders(point(x, 0), 1).bytes, impl.BytesFloat, 5)
			checkGet(t, "Y", inOrders(point(0, x), 0).bytes, impl.BytesFloat, 13)
		}
	}
}

func TestPutShapeLeavesItsShape(t *testing.T) {
	checkLeavesShapes(t, func(s impl.Shape) string { return string(impl.PutShape(s)) })
}

// overwriteBytes changes each byte, and those in the room behind.
func overwriteBytes(b []byte) {
	b = b[:cap(b)]
	for i := range b {
		b[i] ^= 0xa5
	}
}

func TestBytesAreTheirOwn(t *testing.T) {
	for what, s := range goodShapes() {
		given := cloned(s)
		first, second := impl.PutShape(given), impl.PutShape(given)
		before := slices.Clone(second)
		overwriteBytes(first)
		if !slices.Equal(second, before) || !impl.SameShape(given, s) || !slices.Equal(impl.PutShape(given), before) {
			t.Error(what, "has bytes that share memory")
		}
		overwrite(given)
		if !slices.Equal(second, before) {
			t.Error(what, "has bytes that change with it")
		}
	}
}

// GetShape changes no byte, nor what is behind them, and looks at nothing there.
func TestGetShapeLeavesItsBytes(t *testing.T) {
	var list [][]byte
	for _, f := range formsToBreak() {
		list = append(list, f.bytes, f.bytes[:len(f.bytes)/2], slices.Concat(f.bytes, []byte{1}), slices.Concat([]byte{2}, f.bytes))
		for _, one := range f.fields {
			list = append(list, one.with(f.bytes, one.wrongValues()[0].value))
		}
	}
	for _, b := range list {
		for _, behind := range [][]byte{{0, 0, 0}, {1, 1, 0, 0, 0}, b} {
			memory := slices.Concat(b, behind)
			before := slices.Clone(memory)
			s, code, place := impl.GetShape(memory[:len(b)])
			wantShape, wantCode, wantPlace := wantGet(b)
			if code != wantCode || place != wantPlace || !impl.SameShape(s, wantShape) {
				t.Fatal("what lies behind is looked at:", shortBytes(b))
			}
			if !slices.Equal(memory, before) {
				t.Fatal("bytes were changed:", shortBytes(before))
			}
		}
	}
}

func TestShapesOfBytesAreTheirOwn(t *testing.T) {
	for what, s := range goodShapes() {
		b := impl.PutShape(s)
		before := slices.Clone(b)
		get := func() impl.Shape {
			got, _, _ := impl.GetShape(b)
			return got
		}
		checkReadIsItsOwn(t, what, s, get)
		if !slices.Equal(b, before) {
			t.Error(what, "shares memory with its bytes")
		}
		got := get()
		overwriteBytes(b)
		if !impl.SameShape(got, s) {
			t.Error(what, "changes with its bytes")
		}
	}
}

// What was refused, or asked for ahead, leaves nothing behind.
func TestBytesCallsKeepNothing(t *testing.T) {
	list := [][]byte{nil, {2}, {0}, {1, 6, 0, 0, 0}, make([]byte, impl.MaxShapeBytes+1)}
	for _, c := range shapesInBytes() {
		b := bytesOf(t, c.text)
		great := inOrders(c.s, 0).bytes
		list = append(list, b, b[:len(b)/2], slices.Concat(b, []byte{0}), great, great[:len(great)-1])
	}
	tell := func(b []byte) string {
		s, code, place := impl.GetShape(b)
		return fmt.Sprint(s, code, place, impl.PutShape(s))
	}
	var first []string
	for _, b := range list {
		first = append(first, tell(b))
	}
	for i, b := range list {
		for _, other := range list {
			tell(other)
			if tell(b) != first[i] {
				t.Fatalf("%s behind %s: %s, not %s", shortBytes(b), shortBytes(other), tell(b), first[i])
			}
		}
	}
}
