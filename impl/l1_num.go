package impl

import (
	"cmp"
	"math/bits"
)

const MaxNum = 128
const MaxPower = 40

type NumResult struct {
	Good  bool
	Value []byte
}
type Divided struct {
	Good     bool
	Quotient []byte
	Rest     []byte
}

const limbBits = 32
const limbBytes = limbBits / 8
const limbMask = 1<<limbBits - 1

// natural is a number in limbs, the lowest first. But for what stands between the steps of a long division,
// it has no limb 0 at its end, so that lengths can be compared first.
type natural []uint32

func NumTrim(a []byte) []byte {
	if !isNumber(a) {
		return nil
	}
	return withoutZeros(a)
}

func NumCompare(a []byte, b []byte) int64 {
	if !isNumber(a) || !isNumber(b) {
		return 2
	}
	return readNatural(a).compare(readNatural(b))
}

func NumAdd(a []byte, b []byte) NumResult {
	if !isNumber(a) || !isNumber(b) {
		return NumResult{}
	}
	return readNatural(a).add(readNatural(b)).result()
}

func NumSub(a []byte, b []byte) NumResult {
	if !isNumber(a) || !isNumber(b) {
		return NumResult{}
	}
	from, less := readNatural(a), readNatural(b)
	if from.compare(less) < 0 {
		return NumResult{}
	}
	return from.sub(less).result()
}

func NumMul(a []byte, b []byte) NumResult {
	if !isNumber(a) || !isNumber(b) {
		return NumResult{}
	}
	return readNatural(a).mul(readNatural(b)).result()
}

func NumDivide(a []byte, b []byte) Divided {
	if !isNumber(a) || !isNumber(b) {
		return Divided{}
	}
	divisor := readNatural(b)
	if len(divisor) == 0 {
		return Divided{}
	}
	quotient, rest := readNatural(a).divide(divisor)
	return Divided{Good: true, Quotient: quotient.bytes(), Rest: rest.bytes()}
}

func NumPower(a []byte, e []byte, m []byte) NumResult {
	if len(a) > MaxPower || len(e) > MaxPower || len(m) > MaxPower {
		return NumResult{}
	}
	modulus := readNatural(m)
	if len(modulus) == 0 {
		return NumResult{}
	}
	return readNatural(a).power(readNatural(e), modulus).result()
}

func NumTurn(a []byte, n int64) []byte {
	if !isNumber(a) || n < 1 || n > MaxNum {
		return nil
	}
	number := withoutZeros(a)
	if int64(len(number)) > n {
		return nil
	}
	turned := make([]byte, n)
	for i := range number {
		turned[i] = number[len(number)-1-i]
	}
	return turned
}

func isNumber(a []byte) bool {
	return len(a) <= MaxNum
}

func withoutZeros(a []byte) []byte {
	start := 0
	for start < len(a) && a[start] == 0 {
		start++
	}
	trimmed := make([]byte, len(a)-start)
	copy(trimmed, a[start:])
	return trimmed
}

func readNatural(a []byte) natural {
	n := make(natural, (len(a)+limbBytes-1)/limbBytes)
	for i := range len(a) {
		place := len(a) - 1 - i
		n[i/limbBytes] |= uint32(a[place]) << (8 * (i % limbBytes))
	}
	return n.trim()
}

func (n natural) bytes() []byte {
	wide := make([]byte, limbBytes*len(n))
	for i := range len(wide) {
		wide[len(wide)-1-i] = byte(n[i/limbBytes] >> (8 * (i % limbBytes)))
	}
	return withoutZeros(wide)
}

// result is where the limit of an answer is kept: inside, a sum or a product may be longer.
func (n natural) result() NumResult {
	value := n.bytes()
	if !isNumber(value) {
		return NumResult{}
	}
	return NumResult{Good: true, Value: value}
}

func (n natural) trim() natural {
	size := len(n)
	for size > 0 && n[size-1] == 0 {
		size--
	}
	return n[:size]
}

func (n natural) clone() natural {
	c := make(natural, len(n))
	copy(c, n)
	return c
}

func (n natural) compare(m natural) int64 {
	if len(n) != len(m) {
		return int64(cmp.Compare(len(n), len(m)))
	}
	for i := len(n) - 1; i >= 0; i-- {
		if n[i] != m[i] {
			return int64(cmp.Compare(n[i], m[i]))
		}
	}
	return 0
}

func (n natural) add(m natural) natural {
	if len(n) < len(m) {
		n, m = m, n
	}
	sum := make(natural, len(n)+1)
	copy(sum, n)
	sum.addInPlace(m)
	return sum.trim()
}

// addInPlace drops what is carried beyond the limbs of n: the divisor put back into a window that went below 0
// carries just what was borrowed there.
func (n natural) addInPlace(m natural) {
	carry := uint64(0)
	for i := range n {
		carry += uint64(n[i])
		if i < len(m) {
			carry += uint64(m[i])
		}
		n[i] = uint32(carry)
		carry >>= limbBits
	}
}

// sub is asked only where m is not greater than n.
func (n natural) sub(m natural) natural {
	difference := n.clone()
	difference.takeTimes(m, 1)
	return difference.trim()
}

// takeTimes takes m, so many times, away from n in place, and tells whether that went below 0.
// n is then what it should be but for a limb borrowed from beyond its end.
func (n natural) takeTimes(m natural, times uint64) bool {
	carry, borrow := uint64(0), uint64(0)
	for i := range n {
		if i < len(m) {
			carry += times * uint64(m[i])
		}
		difference := uint64(n[i]) - carry&limbMask - borrow
		n[i] = uint32(difference)
		borrow = difference >> 63
		carry >>= limbBits
	}
	return carry+borrow != 0
}

func (n natural) mul(m natural) natural {
	product := make(natural, len(n)+len(m))
	for i := range n {
		carry := uint64(0)
		for j := range m {
			carry += uint64(n[i])*uint64(m[j]) + uint64(product[i+j])
			product[i+j] = uint32(carry)
			carry >>= limbBits
		}
		product[i+len(m)] = uint32(carry)
	}
	return product.trim()
}

// divide answers quotient and rest of n by m, which is not 0.
func (n natural) divide(m natural) (natural, natural) {
	if n.compare(m) < 0 {
		return nil, n.clone()
	}
	if len(m) == 1 {
		return n.divideByLimb(m[0])
	}
	return n.divideLong(m)
}

func (n natural) divideByLimb(d uint32) (natural, natural) {
	quotient := make(natural, len(n))
	rest := uint64(0)
	for i := len(n) - 1; i >= 0; i-- {
		rest = rest<<limbBits | uint64(n[i])
		quotient[i] = uint32(rest / uint64(d))
		rest %= uint64(d)
	}
	return quotient.trim(), natural{uint32(rest)}.trim()
}

// divideLong divides limb by limb. m has at least two limbs, and n is not less than m.
func (n natural) divideLong(m natural) (natural, natural) {
	size := len(m)
	// With the divisor's highest bit on, a limb guessed from its two highest limbs is at most one too great.
	shift := bits.LeadingZeros32(m[size-1])
	divisor := m.shiftLeft(shift)[:size]
	rest := n.shiftLeft(shift)
	quotient := make(natural, len(rest)-size)
	for at := len(quotient) - 1; at >= 0; at-- {
		window := rest[at : at+size+1]
		guess := guessLimb(window, divisor)
		if window.takeTimes(divisor, guess) {
			guess--
			window.addInPlace(divisor)
		}
		quotient[at] = uint32(guess)
	}
	return quotient.trim(), rest[:size].shiftRight(shift).trim()
}

// guessLimb guesses how often the divisor goes into the window, which has one limb more.
func guessLimb(window natural, divisor natural) uint64 {
	top := len(divisor)
	first, second := uint64(divisor[top-1]), uint64(divisor[top-2])
	high := uint64(window[top])<<limbBits | uint64(window[top-1])
	guess, rest := high/first, high%first
	for guess > limbMask || guess*second > rest<<limbBits|uint64(window[top-2]) {
		guess--
		rest += first
		// A rest beyond a limb is more than the second limb can ask for.
		if rest > limbMask {
			break
		}
	}
	return guess
}

// shiftLeft answers one limb more than n has, and leaves it there if it is 0.
func (n natural) shiftLeft(shift int) natural {
	shifted := make(natural, len(n)+1)
	carry := uint64(0)
	for i := range n {
		carry |= uint64(n[i]) << shift
		shifted[i] = uint32(carry)
		carry >>= limbBits
	}
	shifted[len(n)] = uint32(carry)
	return shifted
}

func (n natural) shiftRight(shift int) natural {
	shifted := make(natural, len(n))
	above := uint64(0)
	for i := len(n) - 1; i >= 0; i-- {
		pair := above<<limbBits | uint64(n[i])
		shifted[i] = uint32(pair >> shift)
		above = uint64(n[i])
	}
	return shifted
}

// power answers n to the power e modulo m, which is not 0.
func (n natural) power(e natural, m natural) natural {
	base := n.modulo(m)
	answer := natural{1}.modulo(m)
	for i := limbBits*len(e) - 1; i >= 0; i-- {
		answer = answer.mul(answer).modulo(m)
		if e[i/limbBits]>>(i%limbBits)&1 == 1 {
			answer = answer.mul(base).modulo(m)
		}
	}
	return answer
}

func (n natural) modulo(m natural) natural {
	_, rest := n.divide(m)
	return rest
}
