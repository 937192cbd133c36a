package tests

import (
	"math"
	"math/big"
	"testing"

	"loop.example/g00763/impl"
)

func shareOf(num, den int64) impl.Share { return impl.Share{Num: num, Den: den} }

// manyShares are right: all of a small Den, those at the limits, and a fixed sequence of others.
func manyShares() []impl.Share {
	var list []impl.Share
	for den := int64(1); den <= 12; den++ {
		for num := int64(1); num <= den; num++ {
			list = append(list, shareOf(num, den))
		}
	}
	for _, den := range []int64{997, 1000000, impl.MaxTime + 1, impl.MaxDen - 1, impl.MaxDen} {
		for _, num := range []int64{1, 2, 3, 7, den/2 - 1, den / 2, den/2 + 1, den - 2, den - 1, den} {
			list = append(list, shareOf(num, den))
		}
	}
	state := uint64(23)
	next := func(most int64) int64 {
		state = state*6364136223846793005 + 1442695040888963407
		return int64(state>>33)%most + 1
	}
	for _, most := range []int64{100, 10000, impl.MaxDen} {
		for range 40 {
			den := next(most)
			list = append(list, shareOf(next(den), den))
		}
	}
	return list
}

// wrongShares are not ShareOk: Den or Num is one past a limit, or far past it.
func wrongShares() []impl.Share {
	far := []int64{-1, -2, -7, -impl.MaxDen, -impl.MaxDen - 1, -1 << 32, math.MinInt64, math.MinInt64 + 1}
	list := []impl.Share{{}, shareOf(1, 0), shareOf(0, 1), shareOf(0, impl.MaxDen)}
	for _, den := range []int64{1, 2, 7, 1000, impl.MaxDen - 1, impl.MaxDen} {
		for _, num := range append(far, 0, den+1, den+2, 2*den, den+1<<32, math.MaxInt64-1, math.MaxInt64) {
			list = append(list, shareOf(num, den))
		}
	}
	for _, den := range append(far, 0, impl.MaxDen+1, impl.MaxDen+2, 2*impl.MaxDen, 1<<32, 1<<32+7, math.MaxInt64-1, math.MaxInt64) {
		for _, num := range []int64{math.MinInt64, -1, 0, 1, 2, 7, impl.MaxDen, impl.MaxDen + 1, den - 1, den, den + 1, math.MaxInt64} {
			list = append(list, shareOf(num, den))
		}
	}
	return list
}

// manyTurns are all in range: the first ones, some others, and the last ones.
func manyTurns() []int64 {
	var list []int64
	for j := int64(1); j <= 30; j++ {
		list = append(list, j)
	}
	return append(list, 997, 65536, 333333, 500000, 999983, impl.MaxTime-2, impl.MaxTime-1, impl.MaxTime)
}

func wrongTurns() []int64 {
	return []int64{
		0, -1, -2, -impl.MaxTime, -1 << 32, math.MinInt64, math.MinInt64 + 1,
		impl.MaxTime + 1, impl.MaxTime + 2, 2 * impl.MaxTime, 1 << 32, 1<<32 + 1, math.MaxInt64 - 1, math.MaxInt64,
	}
}

func checkWindow(t *testing.T, s impl.Share, j int64, ready int64, due int64, overlaps int64) {
	t.Helper()
	if !impl.ShareOk(s) {
		t.Errorf("ShareOk(%v) = false", s)
	}
	if got := impl.ReadyAt(s, j); got != ready {
		t.Errorf("ReadyAt(%v, %d) = %d; want %d", s, j, got, ready)
	}
	if got := impl.DueAt(s, j); got != due {
		t.Errorf("DueAt(%v, %d) = %d; want %d", s, j, got, due)
	}
	if got := impl.Overlaps(s, j); got != overlaps {
		t.Errorf("Overlaps(%v, %d) = %d; want %d", s, j, got, overlaps)
	}
}

func checkNoWindow(t *testing.T, s impl.Share, j int64) {
	t.Helper()
	ready, due, overlaps := impl.ReadyAt(s, j), impl.DueAt(s, j), impl.Overlaps(s, j)
	if ready != -1 || due != -1 || overlaps != -1 {
		t.Errorf("ReadyAt, DueAt, Overlaps(%v, %d) = %d, %d, %d; want -1 of each", s, j, ready, due, overlaps)
	}
}

func checkNoShare(t *testing.T, s impl.Share) {
	t.Helper()
	if impl.ShareOk(s) {
		t.Errorf("ShareOk(%v) = true", s)
	}
	for _, j := range append(wrongTurns(), 1, 2, 3, impl.MaxTime-1, impl.MaxTime) {
		checkNoWindow(t, s, j)
	}
}

func TestWindowLimitIsAsTold(t *testing.T) {
	if impl.MaxDen != 100000000 {
		t.Fatal(impl.MaxDen)
	}
}

func TestWindowsOrdinary(t *testing.T) {
	for _, c := range []struct {
		share impl.Share
		want  [][3]int64
	}{
		{shareOf(1, 2), [][3]int64{{0, 2, 0}, {2, 4, 0}, {4, 6, 0}}},
		{shareOf(2, 3), [][3]int64{{0, 2, 1}, {1, 3, 0}, {3, 5, 1}, {4, 6, 0}}},
		{shareOf(4, 6), [][3]int64{{0, 2, 1}, {1, 3, 0}, {3, 5, 1}, {4, 6, 0}}},
		{shareOf(8, 11), [][3]int64{{0, 2, 1}, {1, 3, 1}, {2, 5, 1}, {4, 6, 1}, {5, 7, 1}, {6, 9, 1}, {8, 10, 1}, {9, 11, 0}, {11, 13, 1}}},
		{shareOf(3, 10), [][3]int64{{0, 4, 1}, {3, 7, 1}, {6, 10, 0}, {10, 14, 1}}},
		{shareOf(1, 5), [][3]int64{{0, 5, 0}, {5, 10, 0}, {10, 15, 0}}},
		{shareOf(6, 7), [][3]int64{{0, 2, 1}, {1, 3, 1}, {2, 4, 1}, {3, 5, 1}, {4, 6, 1}, {5, 7, 0}, {7, 9, 1}}},
	} {
		for i, want := range c.want {
			checkWindow(t, c.share, int64(i)+1, want[0], want[1], want[2])
		}
	}
}

func TestWholeProcessor(t *testing.T) {
	for _, den := range []int64{1, 2, 7, 1000, impl.MaxDen - 1, impl.MaxDen} {
		for _, j := range manyTurns() {
			checkWindow(t, shareOf(den, den), j, j-1, j, 0)
		}
	}
}

func TestWindowsAtTheLimitsOfTheShare(t *testing.T) {
	checkWindow(t, shareOf(1, 1), 1, 0, 1, 0)
	checkNoShare(t, shareOf(1, 0))
	checkNoShare(t, shareOf(0, 0))
	checkNoShare(t, shareOf(0, 1))
	checkNoShare(t, shareOf(2, 1))
	checkNoShare(t, shareOf(-1, 1))
	checkNoShare(t, shareOf(-1, -1))
	checkNoShare(t, shareOf(1, -1))

	checkWindow(t, shareOf(7, 7), 3, 2, 3, 0)
	checkWindow(t, shareOf(1, 7), 3, 14, 21, 0)
	checkNoShare(t, shareOf(8, 7))
	checkNoShare(t, shareOf(0, 7))

	checkWindow(t, shareOf(1, impl.MaxDen), 1, 0, impl.MaxDen, 0)
	checkWindow(t, shareOf(1, impl.MaxDen), 2, impl.MaxDen, 2*impl.MaxDen, 0)
	checkWindow(t, shareOf(impl.MaxDen-1, impl.MaxDen), 1, 0, 2, 1)
	checkWindow(t, shareOf(impl.MaxDen, impl.MaxDen), 2, 1, 2, 0)
	checkNoShare(t, shareOf(0, impl.MaxDen))
	checkNoShare(t, shareOf(impl.MaxDen+1, impl.MaxDen))
	checkNoShare(t, shareOf(1, impl.MaxDen+1))
	checkNoShare(t, shareOf(impl.MaxDen, impl.MaxDen+1))
	checkNoShare(t, shareOf(impl.MaxDen+1, impl.MaxDen+1))
}

func TestWindowsAtTheLimitsOfTheTurns(t *testing.T) {
	checkWindow(t, shareOf(3, 7), 1, 0, 3, 1)
	checkWindow(t, shareOf(3, 7), impl.MaxTime-1, 2333328, 2333331, 0)
	// The last turn has no next one to ask for; when that would be ready is told all the same.
	checkWindow(t, shareOf(3, 7), impl.MaxTime, 2333331, 2333334, 1)
	checkWindow(t, shareOf(1, 1), impl.MaxTime, impl.MaxTime-1, impl.MaxTime, 0)
	checkWindow(t, shareOf(1, impl.MaxDen), impl.MaxTime, 99999900000000, 100000000000000, 0)
	checkWindow(t, shareOf(3, impl.MaxDen), impl.MaxTime, 33333300000000, 33333333333334, 1)
	for _, s := range manyShares() {
		for _, j := range wrongTurns() {
			checkNoWindow(t, s, j)
		}
	}
}

func TestWrongShares(t *testing.T) {
	for _, s := range wrongShares() {
		checkNoShare(t, s)
	}
}

func TestWindowsAreByTheirWords(t *testing.T) {
	// By numbers without a limit: those of a turn, times Den, by Num.
	rounded := func(turns int64, s impl.Share) (int64, int64) {
		down, left := new(big.Int).QuoRem(bigProduct(turns, s.Den), bigOf(s.Num), new(big.Int))
		if left.Sign() > 0 {
			return down.Int64(), down.Int64() + 1
		}
		return down.Int64(), down.Int64()
	}
	for _, s := range manyShares() {
		for _, j := range manyTurns() {
			ready, _ := rounded(j-1, s)
			nextReady, due := rounded(j, s)
			overlaps := int64(0)
			if nextReady < due {
				overlaps = 1
			}
			checkWindow(t, s, j, ready, due, overlaps)
		}
	}
}

func TestWindowsFollowOneAnother(t *testing.T) {
	for _, s := range manyShares() {
		if ready := impl.ReadyAt(s, 1); ready != 0 {
			t.Fatalf("ReadyAt(%v, 1) = %d; want 0", s, ready)
		}
		for _, j := range manyTurns() {
			if impl.ReadyAt(s, j) >= impl.DueAt(s, j) {
				t.Fatalf("the window %d of %v is empty", j, s)
			}
			if j == impl.MaxTime {
				continue
			}
			due, ready, overlaps := impl.DueAt(s, j), impl.ReadyAt(s, j+1), impl.Overlaps(s, j)
			if ready > due || due-ready > 1 || overlaps != due-ready {
				t.Fatalf("the window %d of %v is due at %d, the next one ready at %d, Overlaps %d", j, s, due, ready, overlaps)
			}
			if ready <= impl.ReadyAt(s, j) || impl.DueAt(s, j+1) <= due {
				t.Fatalf("the window %d of %v does not come behind the one ahead", j+1, s)
			}
		}
	}
}

func TestWindowsFillTheirShare(t *testing.T) {
	// Each time Den is over, Num turns are: the windows begin again from there.
	for _, s := range manyShares() {
		if s.Num > impl.MaxTime-30 {
			continue
		}
		checkWindow(t, s, s.Num, impl.ReadyAt(s, s.Num), s.Den, 0)
		for j := int64(1); j <= 30; j++ {
			checkWindow(t, s, s.Num+j, s.Den+impl.ReadyAt(s, j), s.Den+impl.DueAt(s, j), impl.Overlaps(s, j))
		}
	}
}

func TestWindowsOfSeveralSharesDoNotMix(t *testing.T) {
	a, b := shareOf(3, 7), shareOf(5, 6)
	for range 3 {
		checkWindow(t, a, 2, 2, 5, 1)
		checkNoShare(t, shareOf(0, 4))
		checkWindow(t, b, 2, 1, 3, 1)
		checkNoWindow(t, a, 0)
		checkWindow(t, a, 3, 4, 7, 0)
	}
	if a != shareOf(3, 7) || b != shareOf(5, 6) {
		t.Fatal(a, b)
	}
}
