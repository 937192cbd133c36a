package tests

import (
	"math"
	"math/big"
	"testing"

	"loop.example/g00763/impl"
)

const most = int64(impl.MaxNum)

// ratioNumbers lie where words end and where the range ends, with some ordinary ones.
var ratioNumbers = []int64{
	0, 1, 2, 3, 7, 10, 1000003,
	1<<31 - 1, 1 << 31, 1<<32 - 1, 1 << 32, 1<<32 + 1,
	1<<61 - 1, 1 << 61, 3074457345618258603,
	most - 2, most - 1, most,
}

// wrongNumbers are all out of range.
var wrongNumbers = []int64{math.MinInt64, math.MinInt64 + 1, -most, -1, most + 1, most + 2, math.MaxInt64 - 1, math.MaxInt64}

func bigOf(n int64) *big.Int { return big.NewInt(n) }

func bigProduct(a, b int64) *big.Int { return new(big.Int).Mul(bigOf(a), bigOf(b)) }

// wantRounded says by numbers without a limit what FloorOf and CeilOf must answer.
func wantRounded(a, b, c int64, up bool) (int64, bool) {
	if c == 0 {
		return 0, false
	}
	quotient, remainder := new(big.Int).QuoRem(bigProduct(a, b), bigOf(c), new(big.Int))
	if up && remainder.Sign() > 0 {
		quotient.Add(quotient, bigOf(1))
	}
	if quotient.Cmp(bigOf(most)) > 0 {
		return 0, false
	}
	return quotient.Int64(), true
}

func checkFloor(t *testing.T, a, b, c, want int64, wantOk bool) {
	t.Helper()
	if got, ok := impl.FloorOf(a, b, c); got != want || ok != wantOk {
		t.Errorf("FloorOf(%d, %d, %d) = %d, %v; want %d, %v", a, b, c, got, ok, want, wantOk)
	}
}

func checkCeil(t *testing.T, a, b, c, want int64, wantOk bool) {
	t.Helper()
	if got, ok := impl.CeilOf(a, b, c); got != want || ok != wantOk {
		t.Errorf("CeilOf(%d, %d, %d) = %d, %v; want %d, %v", a, b, c, got, ok, want, wantOk)
	}
}

func checkLess(t *testing.T, a, b, c, d int64, want bool) {
	t.Helper()
	if got := impl.LessFrac(a, b, c, d); got != want {
		t.Errorf("LessFrac(%d, %d, %d, %d) = %v; want %v", a, b, c, d, got, want)
	}
}

func TestMaxNumIsAsTold(t *testing.T) {
	if most != 4611686018427387904 {
		t.Fatal(most)
	}
}

func TestLessFracOrdinaryAndEdges(t *testing.T) {
	for _, c := range []struct {
		a, b, c, d int64
		want       bool
	}{
		{1, 2, 2, 3, true},
		{2, 3, 1, 2, false},
		{3, 1, 4, 1, true},
		{5, 10, 1, 2, false},
		{1, 2, 5, 10, false},
		{0, 1, 0, 9, false},
		{0, most, 1, most, true},
		{1, most, 0, most, false},
		{most, 1, most, 1, false},
		{most - 1, 1, most, 1, true},
		{1, most, 1, most - 1, true},
		{most - 2, most - 1, most - 1, most, true},
		{most - 1, most, most - 2, most - 1, false},
		{1 << 32, 1, 1, 1 << 32, false}, // the low word of the one product is 0
		{1, 1 << 32, 1 << 32, 1, true},
		{1, 1 << 32, 2, 1 << 33, false},
		{0, 1, 1 << 32, 1 << 32, true},
		{3, 1 << 61, 1, 1 << 60, false},
	} {
		checkLess(t, c.a, c.b, c.c, c.d, c.want)
	}
}

func TestLessFracByNothingIsFalse(t *testing.T) {
	for _, a := range ratioNumbers {
		for _, c := range ratioNumbers {
			checkLess(t, a, 0, c, 0, false)
			for _, b := range ratioNumbers[1:] {
				checkLess(t, a, 0, c, b, false)
				checkLess(t, a, b, c, 0, false)
			}
		}
	}
}

// With the others as they stand the answer would be true if the wrong one were let pass.
func TestLessFracOutOfRangeIsFalse(t *testing.T) {
	for _, w := range wrongNumbers {
		checkLess(t, w, 1, most, 1, false)
		checkLess(t, w, most, most, 1, false)
		checkLess(t, 0, w, 1, 1, false)
		checkLess(t, 1, w, most, 1, false)
		checkLess(t, 0, 1, w, 1, false)
		checkLess(t, 0, 1, 1, w, false)
		checkLess(t, most, 1, w, 1, false)
		for _, n := range ratioNumbers {
			checkLess(t, w, n, n, n, false)
			checkLess(t, n, w, n, n, false)
			checkLess(t, n, n, w, n, false)
			checkLess(t, n, n, n, w, false)
			checkLess(t, w, w, n, n, false)
			checkLess(t, n, n, w, w, false)
		}
	}
	checkLess(t, -2, 1, -1, 1, false)
	checkLess(t, 1, -1, 2, -1, false)
}

func TestOfTwoRatiosNotAlikeOneIsLess(t *testing.T) {
	for _, a := range ratioNumbers {
		for _, b := range ratioNumbers[1:] {
			for _, c := range ratioNumbers {
				for _, d := range ratioNumbers[1:] {
					order := bigProduct(a, d).Cmp(bigProduct(c, b))
					checkLess(t, a, b, c, d, order < 0)
					checkLess(t, c, d, a, b, order > 0)
				}
			}
		}
	}
}

func TestFloorAndCeilOrdinary(t *testing.T) {
	for _, c := range [][5]int64{
		{7, 3, 2, 10, 11},
		{6, 3, 2, 9, 9},
		{1, 1, 2, 0, 1},
		{10, 10, 7, 14, 15},
		{10, 10, 10, 10, 10},
		{99, 1, 100, 0, 1},
		{100, 1, 100, 1, 1},
		{101, 1, 100, 1, 2},
	} {
		checkFloor(t, c[0], c[1], c[2], c[3], true)
		checkCeil(t, c[0], c[1], c[2], c[4], true)
	}
}

func TestFloorAndCeilEdges(t *testing.T) {
	for _, c := range [][5]int64{
		{0, 0, 1, 0, 0},
		{0, most, most, 0, 0},
		{most, 0, 1, 0, 0},
		{1, 1, most, 0, 1},
		{most, 1, 1, most, most},
		{most, most, most, most, most},
		{most - 1, most, most, most - 1, most - 1},
		{most - 1, most - 1, most, most - 2, most - 1},
		{1 << 32, 1 << 32, 1 << 32, 1 << 32, 1 << 32},
		{1 << 32, 1 << 32, 4, most, most},
		{1 << 32, 1 << 32, 5, 3689348814741910323, 3689348814741910324},
	} {
		checkFloor(t, c[0], c[1], c[2], c[3], true)
		checkCeil(t, c[0], c[1], c[2], c[4], true)
	}
}

func TestFloorAndCeilAtTheLimit(t *testing.T) {
	// 3 times the first is 2 times MaxNum and 1: by 2 it is MaxNum and a half.
	checkFloor(t, 3074457345618258603, 3, 2, most, true)
	checkCeil(t, 3074457345618258603, 3, 2, 0, false)
	// MaxNum less a quarter: only rounding up meets it.
	checkFloor(t, 1<<32+1, 1<<32-1, 4, most-1, true)
	checkCeil(t, 1<<32+1, 1<<32-1, 4, most, true)
	checkFloor(t, most-1, most, most-1, most, true)
	checkCeil(t, most-1, most, most-1, most, true)
	for _, c := range [][3]int64{
		{most, 2, 1},
		{2, most, 1},
		{most, most, most - 1}, // MaxNum and 1, and a bit
		{most, most, 1},
		{1 << 32, 1 << 32, 1},        // just 2 to the 64th
		{1 << 32, 1 << 32, 2},        // 2 to the 63rd
		{1<<32 + 1, 1<<32 - 1, 1},    // one word of ones
		{1190112520884487201, 31, 2}, // one word of ones and a half: rounded up, the word would be 0
		{most - 1, most, most / 2},   // nearly 2 times MaxNum
		{1<<32 + 1, 1 << 32, 4},      // MaxNum and 2 to the 30th
		{3074457345618258604, 3, 2},  // MaxNum and 2
	} {
		checkFloor(t, c[0], c[1], c[2], 0, false)
		checkCeil(t, c[0], c[1], c[2], 0, false)
	}
}

func TestFloorAndCeilByNothing(t *testing.T) {
	for _, a := range ratioNumbers {
		for _, b := range ratioNumbers {
			checkFloor(t, a, b, 0, 0, false)
			checkCeil(t, a, b, 0, 0, false)
		}
	}
}

func TestFloorAndCeilOutOfRange(t *testing.T) {
	for _, w := range wrongNumbers {
		for _, n := range ratioNumbers {
			for _, c := range [][3]int64{
				{w, n, n}, {n, w, n}, {n, n, w},
				{w, 0, n}, {0, w, n}, {0, n, w},
				{w, 1, most}, {1, w, most}, {1, 1, w},
				{w, w, n}, {w, n, w}, {n, w, w}, {w, w, w},
			} {
				checkFloor(t, c[0], c[1], c[2], 0, false)
				checkCeil(t, c[0], c[1], c[2], 0, false)
			}
		}
	}
}

func TestFloorAndCeilAgreeWithNumbersWithoutLimit(t *testing.T) {
	for _, a := range ratioNumbers {
		for _, b := range ratioNumbers {
			for _, c := range ratioNumbers {
				want, ok := wantRounded(a, b, c, false)
				checkFloor(t, a, b, c, want, ok)
				want, ok = wantRounded(a, b, c, true)
				checkCeil(t, a, b, c, want, ok)
			}
		}
	}
}

func TestAProductByItsSecondIsTheFirst(t *testing.T) {
	for _, a := range ratioNumbers {
		for _, b := range ratioNumbers[1:] {
			checkFloor(t, a, b, b, a, true)
			checkCeil(t, a, b, b, a, true)
			checkFloor(t, b, a, b, a, true)
			checkCeil(t, b, a, b, a, true)
		}
	}
}

// A fixed sequence, so that each run asks for the same.
func TestRatiosOfManyNumbers(t *testing.T) {
	state := uint64(1)
	next := func() int64 {
		state = state*6364136223846793005 + 1442695040888963407
		return int64(state >> (2 + (state>>59)*2))
	}
	for range 20000 {
		a, b, c, d := next(), next()|1, next(), next()|1
		checkLess(t, a, b, c, d, bigProduct(a, d).Cmp(bigProduct(c, b)) < 0)
		want, ok := wantRounded(a, c, b, false)
		checkFloor(t, a, c, b, want, ok)
		want, ok = wantRounded(a, c, b, true)
		checkCeil(t, a, c, b, want, ok)
		checkFloor(t, a, d, d, a, true)
		checkCeil(t, a, d, d, a, true)
	}
}
