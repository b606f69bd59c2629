package tests

import (
	"iter"
	"maps"
	"math/big"
	"slices"
	"sync"
	"testing"

	"loop.example/g00108/impl"
)

// dice gives the same numbers at every run, so that a failure can be seen again.
type dice struct{ state uint64 }

func (d *dice) next() uint64 {
	d.state += 0x9e3779b97f4a7c15
	x := d.state
	x = (x ^ x>>30) * 0xbf58476d1ce4e5b9
	x = (x ^ x>>27) * 0x94d049bb133111eb
	return x ^ x>>31
}

func (d *dice) below(n int) int { return int(d.next() % uint64(n)) }

// inOrder goes through a map by its keys: what chance deals to each of them is the same at every run.
func inOrder[V any](m map[string]V) iter.Seq2[string, V] {
	return func(yield func(string, V) bool) {
		for _, key := range slices.Sorted(maps.Keys(m)) {
			if !yield(key, m[key]) {
				return
			}
		}
	}
}

// limb is often one of those at which carries and guesses go wrong.
func (d *dice) limb() uint32 {
	edges := []uint32{0, 1, 2, 1<<31 - 1, 1 << 31, 1<<31 + 1, 1<<32 - 2, 1<<32 - 1}
	if d.below(2) == 0 {
		return edges[d.below(len(edges))]
	}
	return uint32(d.next())
}

// num is NumOk, with at most limbs limbs.
func (d *dice) num(limbs int) impl.Num {
	var mag []uint32
	for range d.below(limbs + 1) {
		mag = append(mag, d.limb())
	}
	for len(mag) > 0 && mag[len(mag)-1] == 0 {
		mag = mag[:len(mag)-1]
	}
	return impl.Num{Neg: len(mag) > 0 && d.below(2) == 0, Mag: mag}
}

// bigOf is the number by the library's reckoning, to hold the program's against.
func bigOf(a impl.Num) *big.Int {
	n := new(big.Int)
	for _, limb := range slices.Backward(a.Mag) {
		n.Lsh(n, 32)
		n.Or(n, new(big.Int).SetUint64(uint64(limb)))
	}
	if a.Neg {
		n.Neg(n)
	}
	return n
}

// checkNum: got is want, and has the one form that this number has.
func checkNum(t *testing.T, what string, got impl.Num, want *big.Int) {
	t.Helper()
	if n := len(got.Mag); n > 0 && got.Mag[n-1] == 0 || n == 0 && got.Neg {
		t.Errorf("%s: %v has not the form of a number", what, got)
	}
	if bigOf(got).Cmp(want) != 0 {
		t.Errorf("%s: %v, not %v", what, bigOf(got), want)
	}
}

func sameNum(a, b impl.Num) bool { return a.Neg == b.Neg && slices.Equal(a.Mag, b.Mag) }

func numOf(t *testing.T, s string) impl.Num {
	t.Helper()
	a, ok := impl.ParseNum(s)
	if !ok {
		t.Fatalf("%q is no number", s)
	}
	return a
}

// full has so many limbs, all the same one.
func full(limbs int, limb uint32) impl.Num {
	return impl.Num{Mag: slices.Repeat([]uint32{limb}, limbs)}
}

// wrongNums: each is not as a number must be, for a reason of its own.
func wrongNums() map[string]impl.Num {
	return map[string]impl.Num{
		"nought below 0":           {Neg: true},
		"nought below 0, no limbs": {Neg: true, Mag: []uint32{}},
		"one limb of nought":       {Mag: []uint32{0}},
		"a nought on top":          {Mag: []uint32{7, 0}},
		"a nought on top, below 0": {Neg: true, Mag: []uint32{7, 0}},
		"a limb too many":          full(impl.MaxLimbs+1, 1),
		"far too many limbs":       full(5000, 1),
		"a limb too many, below 0": {Neg: true, Mag: full(impl.MaxLimbs+1, 1).Mag},
	}
}

// checkKeepsNothing: what calls tell of each of a list is the same later, in another order, and beside other calls.
func checkKeepsNothing[T any](t *testing.T, list []T, tell func(T) string, short func(T) string) {
	t.Helper()
	first := make([]string, len(list))
	for i, one := range list {
		first[i] = tell(one)
	}
	for i, one := range slices.Backward(list) {
		if tell(one) != first[i] {
			t.Error("another answer later:", short(one))
		}
	}
	var all sync.WaitGroup
	for worker := range 4 {
		all.Go(func() {
			for i := range list {
				i = (i*7 + worker) % len(list)
				if tell(list[i]) != first[i] {
					t.Error("another answer beside others:", short(list[i]))
				}
			}
		})
	}
	all.Wait()
}
