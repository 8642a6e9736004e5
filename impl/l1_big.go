package impl

import (
	"math"
	"math/bits"
	"strings"
)

const MaxLimbs = 40

// The codes of answers, in the document's order.
const (
	bigGood int64 = iota
	bigWrong
	bigTooLarge
	bigByZero
)

const (
	limbBits = 32
	// The greatest power of ten in one limb, so that texts are read and told by many digits at once.
	chunkDigits = 9
	chunkBase   = 1000000000
	// A limb is below 10^10: no number that is small enough has more digits than this.
	bigMostDigits = 10 * MaxLimbs
)

type Big struct {
	Minus bool
	Limbs []uint32
}
type BigResult struct {
	Code int64
	Big  Big
}
type BigPair struct {
	Code int64
	Quot Big
	Rem  Big
}
type SmallResult struct {
	Good  bool
	Value int64
}

// A magnitude is a number without sign, worked on in an array of its own so that nothing is shared with an argument.
// The array has room for each product of two numbers without fault, and for each number of bigMostDigits digits.
// The limb below count is not 0 and all from count on are, so limbs may be asked for past the end.
type magnitude struct {
	limbs [2 * MaxLimbs]uint32
	count int
}

func BigFault(b Big) bool {
	count := len(b.Limbs)
	if count == 0 {
		return b.Minus
	}
	return count > MaxLimbs || b.Limbs[count-1] == 0
}

func BigOf(v int64) Big {
	size := uint64(v)
	if v < 0 {
		size = -size // wraps to the right size at -2^63 too
	}
	var m magnitude
	m.limbs[0] = uint32(size)
	m.limbs[1] = uint32(size >> limbBits)
	m.setCount(2)
	return signedOf(v < 0, m)
}

func BigSmall(b Big) SmallResult {
	if BigFault(b) || len(b.Limbs) > 2 {
		return SmallResult{}
	}
	m := magnitudeOf(b.Limbs)
	size := uint64(m.limbs[1])<<limbBits | uint64(m.limbs[0])
	if b.Minus {
		// -2^63 has a size that no int64 has, so the sign is turned ahead of the conversion.
		return smallIf(size <= math.MaxInt64+1, int64(-size))
	}
	return smallIf(size <= math.MaxInt64, int64(size))
}

func BigText(b Big) string {
	if BigFault(b) {
		return ""
	}
	if len(b.Limbs) == 0 {
		return "0"
	}
	digits := digitsOf(magnitudeOf(b.Limbs))
	if b.Minus {
		return "-" + digits
	}
	return digits
}

func BigRead(text string) BigResult {
	digits, minus := strings.CutPrefix(text, "-")
	if !digitsInForm(digits) || minus && digits == "0" {
		return BigResult{Code: bigWrong}
	}
	if len(digits) > bigMostDigits {
		return BigResult{Code: bigTooLarge}
	}
	return resultOf(minus, magnitudeOfDigits(digits))
}

func BigCompare(a Big, b Big) int64 {
	if BigFault(a) || BigFault(b) {
		return -2
	}
	if a.Minus != b.Minus {
		if a.Minus {
			return -1
		}
		return 1
	}
	order := compareSizes(magnitudeOf(a.Limbs), magnitudeOf(b.Limbs))
	if a.Minus {
		return -order
	}
	return order
}

func BigAdd(a Big, b Big) BigResult {
	if BigFault(a) || BigFault(b) {
		return BigResult{Code: bigWrong}
	}
	return addSigned(a.Minus, magnitudeOf(a.Limbs), b.Minus, magnitudeOf(b.Limbs))
}

func BigSub(a Big, b Big) BigResult {
	if BigFault(a) || BigFault(b) {
		return BigResult{Code: bigWrong}
	}
	return addSigned(a.Minus, magnitudeOf(a.Limbs), !b.Minus, magnitudeOf(b.Limbs))
}

func BigMul(a Big, b Big) BigResult {
	if BigFault(a) || BigFault(b) {
		return BigResult{Code: bigWrong}
	}
	return resultOf(a.Minus != b.Minus, productOf(magnitudeOf(a.Limbs), magnitudeOf(b.Limbs)))
}

func BigDivMod(a Big, b Big) BigPair {
	if BigFault(a) || BigFault(b) {
		return BigPair{Code: bigWrong}
	}
	if len(b.Limbs) == 0 {
		return BigPair{Code: bigByZero}
	}
	divisor := magnitudeOf(b.Limbs)
	quot, rem := divideSizes(magnitudeOf(a.Limbs), divisor)
	below := a.Minus != b.Minus
	if below && rem.count > 0 {
		// Sizes are divided towards 0; one step further away from it is the lesser number.
		quot.scaleAndAdd(1, 1)
		rem = differenceOf(divisor, rem)
	}
	return BigPair{Code: bigGood, Quot: signedOf(below, quot), Rem: signedOf(b.Minus, rem)}
}

func smallIf(good bool, value int64) SmallResult {
	if !good {
		return SmallResult{}
	}
	return SmallResult{Good: true, Value: value}
}

// magnitudeOf takes the limbs of a number without fault: those of another might not fit, or end in 0.
func magnitudeOf(limbs []uint32) magnitude {
	var m magnitude
	m.count = copy(m.limbs[:], limbs)
	return m
}

// setCount is told below which place all limbs stand, so that the rest of the array is not gone through.
func (m *magnitude) setCount(most int) {
	for most > 0 && m.limbs[most-1] == 0 {
		most--
	}
	m.count = most
}

// signedOf gives zero no sign, whatever sign is asked for.
func signedOf(minus bool, m magnitude) Big {
	if m.count == 0 {
		return Big{}
	}
	limbs := make([]uint32, m.count)
	copy(limbs, m.limbs[:])
	return Big{Minus: minus, Limbs: limbs}
}

func resultOf(minus bool, m magnitude) BigResult {
	if m.count > MaxLimbs {
		return BigResult{Code: bigTooLarge}
	}
	return BigResult{Code: bigGood, Big: signedOf(minus, m)}
}

// addSigned takes signs apart from sizes: the sign of a zero, which BigSub turns too, says nothing here.
func addSigned(aMinus bool, a magnitude, bMinus bool, b magnitude) BigResult {
	if aMinus == bMinus {
		return resultOf(aMinus, sumOf(a, b))
	}
	if compareSizes(a, b) < 0 {
		return resultOf(bMinus, differenceOf(b, a))
	}
	return resultOf(aMinus, differenceOf(a, b))
}

func compareSizes(a magnitude, b magnitude) int64 {
	for i := max(a.count, b.count) - 1; i >= 0; i-- {
		if a.limbs[i] < b.limbs[i] {
			return -1
		}
		if a.limbs[i] > b.limbs[i] {
			return 1
		}
	}
	return 0
}

func sumOf(a magnitude, b magnitude) magnitude {
	var sum magnitude
	count := max(a.count, b.count)
	carry := uint64(0)
	for i := range count {
		carry += uint64(a.limbs[i]) + uint64(b.limbs[i])
		sum.limbs[i] = uint32(carry)
		carry >>= limbBits
	}
	sum.limbs[count] = uint32(carry)
	sum.setCount(count + 1)
	return sum
}

// differenceOf takes b from a, which is not less.
func differenceOf(a magnitude, b magnitude) magnitude {
	var left magnitude
	borrow := uint64(0)
	for i := range a.count {
		wide := uint64(a.limbs[i]) - uint64(b.limbs[i]) - borrow
		left.limbs[i] = uint32(wide)
		borrow = wide >> 63 // a word that wrapped has its top bit set
	}
	left.setCount(a.count)
	return left
}

func productOf(a magnitude, b magnitude) magnitude {
	var product magnitude
	for i := range a.count {
		carry := uint64(0)
		for j := range b.count {
			carry += uint64(product.limbs[i+j]) + uint64(a.limbs[i])*uint64(b.limbs[j])
			product.limbs[i+j] = uint32(carry)
			carry >>= limbBits
		}
		product.limbs[i+b.count] = uint32(carry)
	}
	product.setCount(a.count + b.count)
	return product
}

// scaleAndAdd is asked only where the array has room for one limb more.
func (m *magnitude) scaleAndAdd(factor uint32, more uint32) {
	carry := uint64(more)
	for i := range m.count {
		carry += uint64(m.limbs[i]) * uint64(factor)
		m.limbs[i] = uint32(carry)
		carry >>= limbBits
	}
	m.limbs[m.count] = uint32(carry)
	m.setCount(m.count + 1)
}

// divideByLimb leaves the quotient in m, and answers the remainder.
func (m *magnitude) divideByLimb(divisor uint32) uint32 {
	rem := uint64(0)
	for i := m.count - 1; i >= 0; i-- {
		wide := rem<<limbBits | uint64(m.limbs[i])
		m.limbs[i] = uint32(wide / uint64(divisor))
		rem = wide % uint64(divisor)
	}
	m.setCount(m.count)
	return uint32(rem)
}

// divideSizes answers the quotient, rounded towards 0, and the remainder; b is not 0.
func divideSizes(a magnitude, b magnitude) (magnitude, magnitude) {
	if a.count < b.count {
		return magnitude{}, a
	}
	if b.count == 1 {
		var rem magnitude
		rem.limbs[0] = a.divideByLimb(b.limbs[0])
		rem.setCount(1)
		return a, rem
	}
	return divideLong(a, b)
}

// divideLong divides by two limbs or more, a limb of the quotient at a time.
// Both are shifted until the divisor's top bit is set: only then is a guess from the top limbs nearly right.
func divideLong(a magnitude, b magnitude) (magnitude, magnitude) {
	shift := bits.LeadingZeros32(b.limbs[b.count-1])
	rest, divisor := a.shiftedUp(shift), b.shiftedUp(shift)
	var quot magnitude
	for at := a.count - b.count; at >= 0; at-- {
		limb := guessLimb(&rest, &divisor, at)
		if rest.takeAway(&divisor, at, limb) {
			rest.giveBack(&divisor, at)
			limb--
		}
		quot.limbs[at] = limb
	}
	quot.setCount(a.count - b.count + 1)
	rest.setCount(b.count)
	return quot, rest.shiftedDown(shift)
}

// guessLimb answers the quotient's limb at a place, or one more than it.
func guessLimb(rest *magnitude, divisor *magnitude, at int) uint32 {
	top := at + divisor.count
	wide := uint64(rest.limbs[top])<<limbBits | uint64(rest.limbs[top-1])
	first, second := uint64(divisor.limbs[divisor.count-1]), uint64(divisor.limbs[divisor.count-2])
	guess, left := wide/first, wide%first
	for left>>limbBits == 0 && (guess>>limbBits != 0 || guess*second > left<<limbBits|uint64(rest.limbs[top-2])) {
		guess--
		left += first
	}
	return uint32(guess)
}

// takeAway takes limb times the divisor from the place on, and tells whether that was more than was there.
func (m *magnitude) takeAway(divisor *magnitude, at int, limb uint32) bool {
	carry, borrow := uint64(0), uint64(0)
	for i := range divisor.count + 1 {
		carry += uint64(limb) * uint64(divisor.limbs[i])
		wide := uint64(m.limbs[at+i]) - uint64(uint32(carry)) - borrow
		m.limbs[at+i] = uint32(wide)
		borrow = wide >> 63
		carry >>= limbBits
	}
	return borrow != 0
}

// giveBack undoes one divisor of a takeAway that took too much; the carry out of it meets the borrow that was lost there.
func (m *magnitude) giveBack(divisor *magnitude, at int) {
	carry := uint64(0)
	for i := range divisor.count + 1 {
		carry += uint64(m.limbs[at+i]) + uint64(divisor.limbs[i])
		m.limbs[at+i] = uint32(carry)
		carry >>= limbBits
	}
}

// shiftedUp shifts by less than a limb, and is asked only where the array has room for one limb more.
func (m *magnitude) shiftedUp(shift int) magnitude {
	var up magnitude
	carry := uint64(0)
	for i := range m.count {
		carry |= uint64(m.limbs[i]) << shift
		up.limbs[i] = uint32(carry)
		carry >>= limbBits
	}
	up.limbs[m.count] = uint32(carry)
	up.setCount(m.count + 1)
	return up
}

// shiftedDown shifts by less than a limb.
func (m *magnitude) shiftedDown(shift int) magnitude {
	var down magnitude
	for i := range m.count {
		wide := uint64(m.limbs[i+1])<<limbBits | uint64(m.limbs[i])
		down.limbs[i] = uint32(wide >> shift)
	}
	down.setCount(m.count)
	return down
}

// digitsOf writes from the last digit to the first; the array is long enough for each number without fault.
func digitsOf(m magnitude) string {
	var text [bigMostDigits]byte
	at := len(text)
	for m.count > 0 {
		chunk := m.divideByLimb(chunkBase)
		for i := 0; i < chunkDigits && (chunk > 0 || m.count > 0); i++ {
			at--
			text[at] = byte('0' + chunk%10)
			chunk /= 10
		}
	}
	return string(text[at:])
}

// digitsInForm tells whether the text is that of a number from 0 on, however large.
func digitsInForm(digits string) bool {
	for i := range len(digits) {
		if digits[i] < '0' || digits[i] > '9' {
			return false
		}
	}
	return digits == "0" || digits != "" && digits[0] != '0'
}

// magnitudeOfDigits takes at most bigMostDigits digits.
func magnitudeOfDigits(digits string) magnitude {
	var m magnitude
	for len(digits) > 0 {
		taken := (len(digits)-1)%chunkDigits + 1 // only the first chunk is short, so each later one shifts by chunkBase
		m.scaleAndAdd(chunkBase, chunkOf(digits[:taken]))
		digits = digits[taken:]
	}
	return m
}

func chunkOf(digits string) uint32 {
	value := uint32(0)
	for i := range len(digits) {
		value = value*10 + uint32(digits[i]-'0')
	}
	return value
}
