package impl

import "math/bits"

const MaxNum = 4611686018427387904

// product holds two words, because two numbers up to MaxNum multiply to more than 64 bits.
type product struct {
	high uint64
	low  uint64
}

// productOf wants both numbers in range: below 0 they would turn into great ones.
func productOf(a int64, b int64) product {
	high, low := bits.Mul64(uint64(a), uint64(b))
	return product{high: high, low: low}
}

func (p product) less(q product) bool {
	if p.high != q.high {
		return p.high < q.high
	}
	return p.low < q.low
}

// dividedBy answers quotient and remainder; false where the quotient needs
// more than one word, since there (and at 0) bits.Div64 would panic.
func (p product) dividedBy(c uint64) (uint64, uint64, bool) {
	if p.high >= c {
		return 0, 0, false
	}
	quotient, remainder := bits.Div64(p.high, p.low, c)
	return quotient, remainder, true
}

func (p product) floorBy(c uint64) (uint64, bool) {
	quotient, _, ok := p.dividedBy(c)
	return quotient, ok
}

func (p product) ceilBy(c uint64) (uint64, bool) {
	quotient, remainder, ok := p.dividedBy(c)
	// Past MaxNum it is refused as it is; one more could wrap round to 0.
	if ok && remainder > 0 && quotient <= MaxNum {
		quotient++
	}
	return quotient, ok
}

func inRange(a int64) bool { return a >= 0 && a <= MaxNum }

// rounded takes the way of rounding as a method value, so that both ways share what is refused.
func rounded(round func(uint64) (uint64, bool), c int64) (int64, bool) {
	quotient, ok := round(uint64(c))
	if !ok || quotient > MaxNum {
		return 0, false
	}
	return int64(quotient), true
}

func divisionOk(a int64, b int64, c int64) bool {
	return inRange(a) && inRange(b) && inRange(c) && c != 0
}

func LessFrac(a int64, b int64, c int64, d int64) bool {
	if !inRange(a) || !inRange(b) || !inRange(c) || !inRange(d) || b == 0 || d == 0 {
		return false
	}
	isLessThan := productOf(a, d).less
	return isLessThan(productOf(c, b))
}

func FloorOf(a int64, b int64, c int64) (int64, bool) {
	if !divisionOk(a, b, c) {
		return 0, false
	}
	return rounded(productOf(a, b).floorBy, c)
}

func CeilOf(a int64, b int64, c int64) (int64, bool) {
	if !divisionOk(a, b, c) {
		return 0, false
	}
	return rounded(productOf(a, b).ceilBy, c)
}
