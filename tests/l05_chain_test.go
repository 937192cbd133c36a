package tests

import (
	"math"
	"math/big"
	"testing"

	"loop.example/g00763/impl"
)

// heavyShares are right and heavy: of a small Den, around every limit of Num, and a fixed sequence of others.
func heavyShares() []impl.Share {
	var list []impl.Share
	for den := int64(2); den <= 14; den++ {
		for num := (den + 1) / 2; num < den; num++ {
			list = append(list, shareOf(num, den))
		}
	}
	for _, den := range []int64{997, 998, 1000000, impl.MaxTime + 1, impl.MaxDen - 1, impl.MaxDen} {
		half := (den + 1) / 2
		for _, num := range []int64{half, half + 1, half + 2, den / 3 * 2, den / 10 * 9, den - 3, den - 2, den - 1} {
			list = append(list, shareOf(num, den))
		}
	}
	state := uint64(29)
	next := func(most int64) int64 {
		state = state*6364136223846793005 + 1442695040888963407
		return int64(state>>33)%most + 1
	}
	for _, most := range []int64{100, 10000, impl.MaxDen - 1} {
		for range 40 {
			den := next(most) + 1
			list = append(list, shareOf((den+1)/2-1+next(den/2), den))
		}
	}
	return list
}

// lightShares are right and not heavy: less than a half, or a whole.
func lightShares() []impl.Share {
	var list []impl.Share
	for den := int64(1); den <= 14; den++ {
		for num := int64(1); 2*num < den; num++ {
			list = append(list, shareOf(num, den))
		}
		list = append(list, shareOf(den, den))
	}
	for _, den := range []int64{997, 998, 1000000, impl.MaxTime + 1, impl.MaxDen - 1, impl.MaxDen} {
		half := (den + 1) / 2
		for _, num := range []int64{1, 2, 3, den / 3, half - 2, half - 1, den} {
			list = append(list, shareOf(num, den))
		}
	}
	return list
}

func checkChain(t *testing.T, s impl.Share, j int64, want int64) {
	t.Helper()
	if !impl.HeavyOk(s) {
		t.Errorf("HeavyOk(%v) = false", s)
	}
	if got := impl.ChainEnd(s, j); got != want {
		t.Errorf("ChainEnd(%v, %d) = %d; want %d", s, j, got, want)
	}
}

func checkNoChain(t *testing.T, s impl.Share, j int64) {
	t.Helper()
	if got := impl.ChainEnd(s, j); got != -1 {
		t.Errorf("ChainEnd(%v, %d) = %d; want -1", s, j, got)
	}
}

// checkLight holds that a right share has no chain, and that a wrong turn of it goes ahead of that.
func checkLight(t *testing.T, s impl.Share) {
	t.Helper()
	if !impl.ShareOk(s) || impl.HeavyOk(s) {
		t.Errorf("ShareOk, HeavyOk(%v) = %t, %t; want true, false", s, impl.ShareOk(s), impl.HeavyOk(s))
	}
	for _, j := range manyTurns() {
		if got := impl.ChainEnd(s, j); got != 0 {
			t.Errorf("ChainEnd(%v, %d) = %d; want 0", s, j, got)
		}
	}
	for _, j := range wrongTurns() {
		checkNoChain(t, s, j)
	}
}

// checkNotHeavy is of what is no share at all.
func checkNotHeavy(t *testing.T, s impl.Share) {
	t.Helper()
	if impl.HeavyOk(s) {
		t.Errorf("HeavyOk(%v) = true", s)
	}
	for _, j := range append(wrongTurns(), 1, 2, 3, impl.MaxTime-1, impl.MaxTime) {
		checkNoChain(t, s, j)
	}
}

func TestChainsOrdinary(t *testing.T) {
	for _, c := range []struct {
		share impl.Share
		want  []int64
	}{
		{shareOf(1, 2), []int64{2, 4, 6, 8}},
		{shareOf(4, 8), []int64{2, 4, 6, 8}},
		{shareOf(2, 3), []int64{3, 3, 6, 6, 9, 9}},
		{shareOf(4, 6), []int64{3, 3, 6, 6, 9, 9}},
		{shareOf(4, 5), []int64{5, 5, 5, 5, 10, 10}},
		{shareOf(3, 5), []int64{3, 5, 5, 8, 10, 10}},
		{shareOf(5, 9), []int64{3, 5, 7, 9, 9, 12}},
		{shareOf(5, 7), []int64{4, 4, 7, 7, 7, 11, 11, 14}},
		{shareOf(8, 11), []int64{4, 4, 8, 8, 8, 11, 11, 11, 15, 15}},
		{shareOf(6, 7), []int64{7, 7, 7, 7, 7, 7, 14}},
	} {
		for i, want := range c.want {
			checkChain(t, c.share, int64(i)+1, want)
		}
	}
}

func TestChainsAtTheLimitsOfTheShare(t *testing.T) {
	checkLight(t, shareOf(1, 1))
	checkNotHeavy(t, shareOf(0, 1))
	checkNotHeavy(t, shareOf(2, 1))

	checkChain(t, shareOf(1, 2), 1, 2)
	checkLight(t, shareOf(2, 2))
	checkNotHeavy(t, shareOf(0, 2))
	checkNotHeavy(t, shareOf(3, 2))

	// 2 times Num is one below Den, Den, and one past it.
	checkLight(t, shareOf(3, 7))
	checkLight(t, shareOf(3, 8))
	checkChain(t, shareOf(4, 8), 1, 2)
	checkChain(t, shareOf(4, 7), 1, 3)

	checkLight(t, shareOf(impl.MaxDen/2-1, impl.MaxDen))
	checkLight(t, shareOf(impl.MaxDen/2-1, impl.MaxDen-1))
	checkChain(t, shareOf(impl.MaxDen/2, impl.MaxDen), 1, 2)
	checkChain(t, shareOf(impl.MaxDen/2, impl.MaxDen-1), 1, 3)
	checkChain(t, shareOf(impl.MaxDen/2+1, impl.MaxDen), 1, 3)
	checkChain(t, shareOf(impl.MaxDen-1, impl.MaxDen), 1, impl.MaxDen)
	checkChain(t, shareOf(impl.MaxDen-2, impl.MaxDen-1), 1, impl.MaxDen-1)
	checkLight(t, shareOf(impl.MaxDen, impl.MaxDen))
	checkNotHeavy(t, shareOf(impl.MaxDen+1, impl.MaxDen))
	checkNotHeavy(t, shareOf(impl.MaxDen-1, impl.MaxDen+1))
	checkNotHeavy(t, shareOf(impl.MaxDen, impl.MaxDen+1))
	checkNotHeavy(t, shareOf(impl.MaxDen+1, impl.MaxDen+2))
}

func TestChainsAtTheLimitsOfTheTurns(t *testing.T) {
	checkChain(t, shareOf(3, 4), 1, 4)
	checkChain(t, shareOf(3, 4), impl.MaxTime-1, 1333332)
	checkChain(t, shareOf(3, 4), impl.MaxTime, 1333336)
	checkChain(t, shareOf(1, 2), impl.MaxTime, 2*impl.MaxTime)
	checkChain(t, shareOf(impl.MaxDen/2, impl.MaxDen), impl.MaxTime, 2*impl.MaxTime)
	checkChain(t, shareOf(impl.MaxDen-1, impl.MaxDen), impl.MaxTime, impl.MaxDen)
	for _, s := range heavyShares() {
		for _, j := range wrongTurns() {
			checkNoChain(t, s, j)
		}
	}
}

func TestLightShares(t *testing.T) {
	for _, s := range lightShares() {
		checkLight(t, s)
	}
}

func TestNoSharesHaveNoChain(t *testing.T) {
	for _, s := range wrongShares() {
		checkNotHeavy(t, s)
	}
	// Twice these wrap round to what would be at least Den.
	for _, num := range []int64{math.MinInt64 + impl.MaxDen/2, math.MinInt64 + impl.MaxDen, math.MinInt64/2 - 1} {
		checkNotHeavy(t, shareOf(num, 2))
		checkNotHeavy(t, shareOf(num, impl.MaxDen))
	}
}

func TestHeavyIsByItsWords(t *testing.T) {
	for _, s := range append(append(manyShares(), wrongShares()...), append(heavyShares(), lightShares()...)...) {
		twice := bigProduct(2, s.Num)
		want := impl.ShareOk(s) && twice.Cmp(bigOf(s.Den)) >= 0 && s.Num < s.Den
		if got := impl.HeavyOk(s); got != want {
			t.Errorf("HeavyOk(%v) = %t; want %t", s, got, want)
		}
	}
}

func TestChainsAreByTheirWords(t *testing.T) {
	// By numbers without a limit.
	up := func(a int64, b int64, c int64) int64 {
		down, left := new(big.Int).QuoRem(bigProduct(a, b), bigOf(c), new(big.Int))
		if left.Sign() > 0 {
			return down.Int64() + 1
		}
		return down.Int64()
	}
	for _, s := range heavyShares() {
		free := s.Den - s.Num
		for _, j := range manyTurns() {
			x := up(up(j, s.Den, s.Num), free, s.Den)
			checkChain(t, s, j, up(x, s.Den, free))
		}
	}
}

func TestChainsAreWhereCountingEnds(t *testing.T) {
	// Without dividing: time goes on one by one until so many free turns have come.
	for den := int64(2); den <= 14; den++ {
		for num := (den + 1) / 2; num < den; num++ {
			free, frees, end := den-num, int64(0), int64(0)
			for j := int64(1); j <= 60; j++ {
				for due := impl.DueAt(shareOf(num, den), j); frees*den < due*free; {
					frees++
				}
				for end*free < frees*den {
					end++
				}
				checkChain(t, shareOf(num, den), j, end)
			}
		}
	}
}

func checkChainsInOrder(t *testing.T, s impl.Share, turns []int64) {
	t.Helper()
	ahead := int64(0)
	for _, j := range turns {
		end := impl.ChainEnd(s, j)
		if due := impl.DueAt(s, j); end < due {
			t.Fatalf("the chain %d of %v ends at %d, its window at %d", j, s, end, due)
		}
		if end < ahead {
			t.Fatalf("the chain %d of %v ends at %d, one ahead of it at %d", j, s, end, ahead)
		}
		ahead = end
	}
}

func TestChainsEndNoEarlierThanTheirWindowsAndInOrder(t *testing.T) {
	var oneByOne []int64
	for j := int64(1); j <= 400; j++ {
		oneByOne = append(oneByOne, j)
	}
	for j := int64(impl.MaxTime - 400); j <= impl.MaxTime; j++ {
		oneByOne = append(oneByOne, j)
	}
	for _, s := range heavyShares() {
		checkChainsInOrder(t, s, manyTurns())
		checkChainsInOrder(t, s, oneByOne)
	}
}

func TestChainsBeginAgainWithTheShare(t *testing.T) {
	// Each time Den is over, Num turns are: the chains are the same from there.
	for _, s := range heavyShares() {
		if s.Num > impl.MaxTime-30 {
			continue
		}
		checkChain(t, s, s.Num, s.Den)
		for j := int64(1); j <= 30; j++ {
			checkChain(t, s, s.Num+j, s.Den+impl.ChainEnd(s, j))
		}
	}
}

func TestChainsOfSeveralSharesDoNotMix(t *testing.T) {
	a, b := shareOf(3, 4), shareOf(8, 11)
	for range 3 {
		checkChain(t, a, 4, 8)
		checkNotHeavy(t, shareOf(0, 4))
		checkChain(t, b, 4, 8)
		checkLight(t, shareOf(3, 8))
		checkNoChain(t, a, 0)
		checkChain(t, a, 7, 12)
	}
	if a != shareOf(3, 4) || b != shareOf(8, 11) {
		t.Fatal(a, b)
	}
}
