package impl

import (
	"math"
	"math/bits"
	"slices"
	"strconv"
	"strings"
)

const (
	MaxLimbs  = 24
	MaxDigits = 300
)

const limbBits = 32

// The greatest power of ten that a limb holds, so that one division tells as many digits as may be.
const digitGroup = 1000000000

type Num struct {
	Neg bool
	Mag []uint32
}

func NumOk(a Num) bool {
	n := len(a.Mag)
	if n == 0 {
		return !a.Neg
	}
	return n <= MaxLimbs && a.Mag[n-1] != 0
}

func Of(n int) Num {
	size := uint64(n)
	if n < 0 {
		// The wrap-round is right for the least int too, which has no int above 0 of its size.
		size = -size
	}
	return signed(n < 0, []uint32{uint32(size), uint32(size >> limbBits)})
}

func Small(a Num) (int, bool) {
	a = taken(a)
	if len(a.Mag) > 2 {
		return 0, false
	}
	size := uint64(0)
	for i, limb := range a.Mag {
		size |= uint64(limb) << (limbBits * i)
	}
	if a.Neg {
		return smallBelow(size)
	}
	if size > math.MaxInt64 {
		return 0, false
	}
	return int(size), true
}

func Neg(a Num) Num { return sum(negated(taken(a))) }

func Add(a Num, b Num) Num { return sum(taken(a), taken(b)) }

func Sub(a Num, b Num) Num { return sum(taken(a), negated(taken(b))) }

func Mul(a Num, b Num) Num { return product(taken(a), taken(b)) }

func Cmp(a Num, b Num) int { return compared(taken(a), taken(b)) }

func Sign(a Num) int { return compared(taken(a), Num{}) }

func DivMod(a Num, b Num) (Num, Num, bool) {
	a, b = taken(a), taken(b)
	if len(b.Mag) == 0 {
		return Num{}, Num{}, false
	}
	q, r := divided(a, b)
	return q, r, true
}

func Gcd(a Num, b Num) Num { return commonDivisor(taken(a), taken(b)) }

func NumText(a Num) string {
	a = taken(a)
	if len(a.Mag) == 0 {
		return "0"
	}
	groups := digitGroups(a.Mag)
	top := len(groups) - 1
	var text strings.Builder
	if a.Neg {
		text.WriteByte('-')
	}
	text.WriteString(strconv.FormatUint(groups[top], 10))
	for i := top - 1; i >= 0; i-- {
		// The one ahead keeps the noughts of a group that is not the first; it is cut off again.
		text.WriteString(strconv.FormatUint(digitGroup+groups[i], 10)[1:])
	}
	return text.String()
}

// A text of up to MaxDigits digits is read whatever its limbs come to: the limit is one of digits.
func ParseNum(s string) (Num, bool) {
	digits, neg := strings.CutPrefix(s, "-")
	if len(digits) == 0 || len(digits) > MaxDigits {
		return Num{}, false
	}
	if digits[0] == '0' && (neg || len(digits) > 1) {
		return Num{}, false
	}
	var mag []uint32
	for _, digit := range digits {
		if digit < '0' || digit > '9' {
			return Num{}, false
		}
		mag = tenfold(mag, uint64(digit-'0'))
	}
	return signed(neg, mag), true
}

// The functions below take numbers of any size, so that what comes of products
// (which may pass MaxLimbs) can be reckoned on with; they want them without noughts on top.

func taken(a Num) Num {
	if NumOk(a) {
		return a
	}
	return Num{}
}

func smallBelow(size uint64) (int, bool) {
	if size > 1<<63 {
		return 0, false
	}
	return int(-size), true
}

// It keeps mag, which must be the caller's own.
func signed(neg bool, mag []uint32) Num {
	mag = trimmed(mag)
	return Num{Neg: neg && len(mag) > 0, Mag: mag}
}

// It shares a's limbs: it is for what is reckoned on with, not for an answer.
func negated(a Num) Num {
	return Num{Neg: !a.Neg && len(a.Mag) > 0, Mag: a.Mag}
}

// The parts above and below 0 are gathered apart, so that signs meet but once.
func sum(parts ...Num) Num {
	var up, down []uint32
	for _, part := range parts {
		if part.Neg {
			down = addMag(down, part.Mag)
		} else {
			up = addMag(up, part.Mag)
		}
	}
	if cmpMag(up, down) < 0 {
		return signed(true, subMag(down, up))
	}
	return signed(false, subMag(up, down))
}

func product(a Num, b Num) Num {
	return signed(a.Neg != b.Neg, mulMag(a.Mag, b.Mag))
}

func compared(a Num, b Num) int {
	switch {
	case a.Neg && b.Neg:
		return cmpMag(b.Mag, a.Mag)
	case a.Neg:
		return -1
	case b.Neg:
		return 1
	}
	return cmpMag(a.Mag, b.Mag)
}

// b is not 0.
func divided(a Num, b Num) (Num, Num) {
	q, r := divMag(a.Mag, b.Mag)
	if a.Neg && len(r) > 0 {
		// The rest of the sizes counts down from a here; one b more makes it count up.
		q = addMag(q, []uint32{1})
		r = subMag(b.Mag, r)
	}
	return signed(a.Neg != b.Neg, q), signed(false, r)
}

func commonDivisor(a Num, b Num) Num {
	x, y := a.Mag, b.Mag
	for len(y) > 0 {
		_, rest := divMag(x, y)
		x, y = y, rest
	}
	return signed(false, slices.Clone(x))
}

// Without spare room behind it, and nil of 0, so that numbers that are the same look the same.
func trimmed(mag []uint32) []uint32 {
	n := len(mag)
	for n > 0 && mag[n-1] == 0 {
		n--
	}
	if n == 0 {
		return nil
	}
	return mag[:n:n]
}

func cmpMag(a []uint32, b []uint32) int {
	if len(a) != len(b) {
		if len(a) < len(b) {
			return -1
		}
		return 1
	}
	for i := len(a) - 1; i >= 0; i-- {
		if a[i] != b[i] {
			if a[i] < b[i] {
				return -1
			}
			return 1
		}
	}
	return 0
}

func addMag(a []uint32, b []uint32) []uint32 {
	if len(a) < len(b) {
		a, b = b, a
	}
	out := make([]uint32, len(a)+1)
	copy(out, a)
	addInto(out, b)
	return trimmed(out)
}

// Whether the sum goes beyond u's limbs; u has at least as many as v.
func addInto(u []uint32, v []uint32) bool {
	carry := uint64(0)
	for i := range u {
		carry += uint64(u[i])
		if i < len(v) {
			carry += uint64(v[i])
		}
		u[i] = uint32(carry)
		carry >>= limbBits
	}
	return carry > 0
}

// a is not less than b.
func subMag(a []uint32, b []uint32) []uint32 {
	out := slices.Clone(a)
	takeTimes(out, b, 1)
	return trimmed(out)
}

// It takes v as often as times says (below 2^32) from u, which has at least as many limbs.
// Whether u would be below 0: its limbs wrap round then.
func takeTimes(u []uint32, v []uint32, times uint64) bool {
	owed := uint64(0)
	for i := range u {
		if i < len(v) {
			owed += times * uint64(v[i])
		}
		low := uint32(owed)
		owed >>= limbBits
		if u[i] < low {
			owed++
		}
		u[i] -= low
	}
	return owed > 0
}

func mulMag(a []uint32, b []uint32) []uint32 {
	out := make([]uint32, len(a)+len(b))
	for i, x := range a {
		carry := uint64(0)
		for j, y := range b {
			carry += uint64(x)*uint64(y) + uint64(out[i+j])
			out[i+j] = uint32(carry)
			carry >>= limbBits
		}
		out[i+len(b)] = uint32(carry)
	}
	return trimmed(out)
}

// b is not 0. Both are shifted up until b's highest bit is 1: a limb of the quotient that is
// guessed from the highest limbs alone is then at most two too great.
func divMag(a []uint32, b []uint32) ([]uint32, []uint32) {
	if cmpMag(a, b) < 0 {
		return nil, slices.Clone(a)
	}
	shift := bits.LeadingZeros32(b[len(b)-1])
	rest := shiftedUp(a, shift)
	by := trimmed(shiftedUp(b, shift))
	q := make([]uint32, len(a)-len(b)+1)
	for i := len(q) - 1; i >= 0; i-- {
		q[i] = takeMost(rest[i:i+len(by)+1], by)
	}
	return trimmed(q), trimmed(shiftedDown(rest, shift))
}

// It takes v from u as often as it goes, and tells how often: below 2^32 times.
// u has one limb more than v, and v's highest bit is 1.
func takeMost(u []uint32, v []uint32) uint32 {
	n := len(v)
	top := uint64(u[n])<<limbBits | uint64(u[n-1])
	times := min(top/uint64(v[n-1]), math.MaxUint32)
	below := takeTimes(u, v, times)
	for below {
		times--
		below = !addInto(u, v)
	}
	return uint32(times)
}

// With one limb more, for what is shifted out on top; shift is below limbBits.
func shiftedUp(mag []uint32, shift int) []uint32 {
	out := make([]uint32, len(mag)+1)
	carry := uint64(0)
	for i, limb := range mag {
		carry |= uint64(limb) << shift
		out[i] = uint32(carry)
		carry >>= limbBits
	}
	out[len(mag)] = uint32(carry)
	return out
}

func shiftedDown(mag []uint32, shift int) []uint32 {
	out := make([]uint32, len(mag))
	above := uint64(0)
	for i := len(mag) - 1; i >= 0; i-- {
		above = above<<limbBits | uint64(mag[i])
		out[i] = uint32(above >> shift)
	}
	return out
}

// From the lowest group of nine digits up.
func digitGroups(mag []uint32) []uint64 {
	var groups []uint64
	for len(mag) > 0 {
		q, r := divMag(mag, []uint32{digitGroup})
		group := uint64(0)
		if len(r) > 0 {
			group = uint64(r[0])
		}
		groups = append(groups, group)
		mag = q
	}
	return groups
}

// It writes into mag, which must be the caller's own.
func tenfold(mag []uint32, more uint64) []uint32 {
	for i, limb := range mag {
		more += uint64(limb) * 10
		mag[i] = uint32(more)
		more >>= limbBits
	}
	if more > 0 {
		mag = append(mag, uint32(more))
	}
	return mag
}
