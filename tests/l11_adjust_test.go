package tests

import (
	"math"
	"slices"
	"testing"

	"loop.example/g00763/impl"
)

func wrongProcs() []int64 {
	return []int64{
		0, -1, -2, -impl.MaxProcs, -1 << 32, 1 - 1<<32, math.MinInt64, math.MinInt64 + 1,
		impl.MaxProcs + 1, impl.MaxProcs + 2, 2 * impl.MaxProcs, 1 << 32, 1<<32 + 1, math.MaxInt64 - 1, math.MaxInt64,
	}
}

// sharesOf has so many of the same share.
func sharesOf(n int, s impl.Share) []impl.Share {
	list := make([]impl.Share, n)
	for i := range list {
		list[i] = s
	}
	return list
}

// sharesWithRoom is the same list with room behind it that must stay as it is.
func sharesWithRoom(list []impl.Share) []impl.Share {
	return append(slices.Clone(list), shareOf(77, -77), shareOf(777, 7), shareOf(-7, 0))[:len(list)]
}

// spoilShares writes into all of a list, and into the room behind it.
func spoilShares(list []impl.Share) {
	for i := range list[:cap(list)] {
		list[:cap(list)][i] = shareOf(-5, -6)
	}
}

func checkAdjusted(t *testing.T, crew []int64, procs int64, want ...impl.Share) {
	t.Helper()
	if got := impl.Adjusted(crew, procs); !slices.Equal(got, want) {
		t.Errorf("Adjusted(%v, %d) = %v; want %v", crew, procs, got, want)
	}
}

func checkNotAdjusted(t *testing.T, crew []int64, procs int64) {
	t.Helper()
	if got := impl.Adjusted(crew, procs); len(got) != 0 {
		t.Errorf("Adjusted(%v, %d) = %v; want nothing", crew, procs, got)
	}
}

func checkFits(t *testing.T, list []impl.Share, procs int64, want bool) {
	t.Helper()
	if got := impl.FitsOn(list, procs); got != want {
		t.Errorf("FitsOn(%v, %d) = %v; want %v", list, procs, got, want)
	}
}

// checkFitsFrom is for a list that fits on so many processors, and on all numbers above, but on none below.
func checkFitsFrom(t *testing.T, list []impl.Share, least int64) {
	t.Helper()
	for procs := int64(1); procs <= impl.MaxProcs; procs++ {
		checkFits(t, list, procs, procs >= least)
	}
	for _, procs := range wrongProcs() {
		checkFits(t, list, procs, false)
	}
}

// checkNeverFits is for a list that is not right for any number of processors.
func checkNeverFits(t *testing.T, list []impl.Share) {
	t.Helper()
	checkFitsFrom(t, list, math.MaxInt64)
}

func checkWhole(t *testing.T, list []impl.Share, want int64) {
	t.Helper()
	if got := impl.WholeOf(list); got != want {
		t.Errorf("WholeOf(%v) = %d; want %d", list, got, want)
	}
}

// wantAdjusted goes down the list as the document's words do.
func wantAdjusted(crew []int64, procs int64) []impl.Share {
	p, w := procs, turnsOf(crew)
	list := make([]impl.Share, len(crew))
	whole := true
	for _, who := range wantOrder(crew) {
		whole = whole && crew[who]*p >= w
		if whole {
			list[who] = shareOf(1, 1)
			p, w = p-1, w-crew[who]
		} else {
			list[who] = shareOf(crew[who]*p, w)
		}
	}
	return list
}

// wantFits asks one thing behind the other, as the document's words do.
func wantFits(list []impl.Share, procs int64) bool {
	if len(list) > impl.MaxCrew || procs < 1 || procs > impl.MaxProcs {
		return false
	}
	whole, nums, dens := int64(0), int64(0), []int64{}
	for _, s := range list {
		if s.Den < 1 || s.Den > impl.MaxDen || s.Num < 1 || s.Num > s.Den {
			return false
		}
		if s.Num == s.Den {
			whole++
		} else {
			nums += s.Num
			dens = append(dens, s.Den)
		}
	}
	slices.Sort(dens)
	dens = slices.Compact(dens)
	if whole > procs || len(dens) > 1 {
		return false
	}
	return len(dens) == 0 || nums <= dens[0]*(procs-whole)
}

// severalCrews are of several weights: all small ones, and those of every size up to the limits.
func severalCrews() [][]int64 {
	list := append(manyCrews(),
		[]int64{1, impl.MaxWeight}, []int64{impl.MaxWeight, 1, impl.MaxWeight - 1}, []int64{999983, 999979, 2},
		crewOf(impl.MaxCrew, 1), crewOf(impl.MaxCrew, impl.MaxWeight),
	)
	for _, c := range smallCounts() {
		if turnsOf(c.counts) == 0 {
			list = append(list, c.crew)
		}
	}
	// Each one twice, three times or ten times as heavy as the one behind it: several have a whole one.
	for _, times := range []int64{2, 3, 10} {
		var crew []int64
		for weight := int64(1); weight <= impl.MaxWeight && len(crew) < impl.MaxCrew; weight *= times {
			crew = append(crew, weight)
			list = append(list, slices.Clone(crew))
		}
		for len(crew) < impl.MaxCrew {
			crew = append(crew, 1)
		}
		list = append(list, crew)
	}
	return list
}

func TestAdjustLimitIsAsTold(t *testing.T) {
	if impl.MaxProcs != 8 {
		t.Fatal(impl.MaxProcs)
	}
}

func TestAdjustedOrdinary(t *testing.T) {
	one, half := shareOf(1, 1), shareOf(1, 2)
	// On one processor each one has its weight of all weights, one alone a whole one.
	checkAdjusted(t, []int64{3, 2, 1}, 1, shareOf(3, 6), shareOf(2, 6), shareOf(1, 6))
	checkAdjusted(t, []int64{1, 100}, 1, shareOf(1, 101), shareOf(100, 101))
	checkAdjusted(t, []int64{5}, 1, one)
	checkAdjusted(t, []int64{5}, 8, one)
	// On several: so many times that, and not made less where both have a divisor.
	checkAdjusted(t, []int64{2, 2, 2}, 2, shareOf(4, 6), shareOf(4, 6), shareOf(4, 6))
	checkAdjusted(t, []int64{3, 2, 4, 1}, 2, shareOf(6, 10), shareOf(4, 10), shareOf(8, 10), shareOf(2, 10))
	checkAdjusted(t, []int64{4, 4, 4, 4, 4}, 3, sharesOf(5, shareOf(12, 20))...)
	// One is too heavy for its share: the others share what is left.
	checkAdjusted(t, []int64{1, 10, 1}, 2, half, one, half)
	checkAdjusted(t, []int64{2, 50, 3, 1}, 3, shareOf(2, 3), one, one, shareOf(1, 3))
	checkAdjusted(t, []int64{2, 50, 3, 1}, 2, shareOf(2, 6), one, shareOf(3, 6), shareOf(1, 6))
	// No more than processors: everybody has a whole one.
	checkAdjusted(t, []int64{5, 1}, 4, one, one)
	checkAdjusted(t, []int64{5, 1}, 2, one, one)
	checkAdjusted(t, []int64{1, 1, 1}, 3, one, one, one)
	checkAdjusted(t, []int64{7, 1, 900, 2}, 4, one, one, one, one)
}

func TestAdjustedWhoHasJustAWholeOne(t *testing.T) {
	one, half := shareOf(1, 1), shareOf(1, 2)
	// Its weight times P is just W.
	checkAdjusted(t, []int64{2, 1, 1}, 2, one, half, half)
	checkAdjusted(t, []int64{1, 2, 1}, 2, half, one, half)
	checkAdjusted(t, []int64{1, 1, 2}, 2, half, half, one)
	checkAdjusted(t, []int64{200, 99, 101}, 2, one, shareOf(99, 200), shareOf(101, 200))
	// One below it.
	checkAdjusted(t, []int64{5, 3, 3}, 2, shareOf(10, 11), shareOf(6, 11), shareOf(6, 11))
	checkAdjusted(t, []int64{3, 5, 3}, 2, shareOf(6, 11), shareOf(10, 11), shareOf(6, 11))
	checkAdjusted(t, []int64{3, 3, 5}, 2, shareOf(6, 11), shareOf(6, 11), shareOf(10, 11))
	checkAdjusted(t, []int64{200, 100, 101}, 2, shareOf(400, 401), shareOf(200, 401), shareOf(202, 401))
	// One above it.
	checkAdjusted(t, []int64{200, 99, 100}, 2, one, shareOf(99, 199), shareOf(100, 199))
	checkAdjusted(t, []int64{6, 5, 6, 1}, 3, one, shareOf(5, 6), one, shareOf(1, 6))

	// The second one: just so much of what is left, one below it, one above it.
	checkAdjusted(t, []int64{90, 4, 2, 2}, 3, one, one, shareOf(2, 4), shareOf(2, 4))
	checkAdjusted(t, []int64{90, 5, 3, 3}, 3, one, shareOf(10, 11), shareOf(6, 11), shareOf(6, 11))
	checkAdjusted(t, []int64{90, 4, 2, 1}, 3, one, one, shareOf(2, 3), shareOf(1, 3))
}

func TestAdjustedJustWholeOnEveryNumberOfProcessors(t *testing.T) {
	// The heavy one's weight times P is just all weights where the others have that weight, P less 1 times.
	for procs := int64(2); procs <= impl.MaxProcs; procs++ {
		const weight = 60
		for size := int(procs) + 1; size <= impl.MaxCrew; size++ {
			for place := range size {
				light := make([]int64, 0, size-1)
				left := weight * (procs - 1)
				for k := size - 1; k > 0; k-- {
					light = append(light, left/int64(k))
					left -= left / int64(k)
				}
				crew := slices.Insert(slices.Clone(light), place, weight)
				got := impl.Adjusted(crew, procs)
				if got[place] != shareOf(1, 1) || impl.WholeOf(got) != 1 {
					t.Fatalf("Adjusted(%v, %d) = %v; want a whole one for %d alone", crew, procs, got, place)
				}
				// One of the others has 1 more: all weights are one more.
				crew[(place+1)%size]++
				got = impl.Adjusted(crew, procs)
				if got[place] != shareOf(weight*procs, weight*procs+1) || impl.WholeOf(got) != 0 {
					t.Fatalf("Adjusted(%v, %d) = %v; want no whole one", crew, procs, got)
				}
			}
		}
	}
}

func TestAdjustedSeveralHaveAWholeOne(t *testing.T) {
	one := shareOf(1, 1)
	// One after the other.
	checkAdjusted(t, []int64{1, 1000, 100, 1, 10}, 4, shareOf(1, 2), one, one, shareOf(1, 2), one)
	checkAdjusted(t, []int64{1, 1000, 100, 1, 10}, 3, shareOf(1, 12), one, one, shareOf(1, 12), shareOf(10, 12))
	checkAdjusted(t, []int64{1, 1000, 100, 1, 10}, 2, shareOf(1, 112), one, shareOf(100, 112), shareOf(1, 112), shareOf(10, 112))
	checkAdjusted(t, []int64{1, 1000, 100, 1, 10}, 1, shareOf(1, 1112), shareOf(1000, 1112), shareOf(100, 1112), shareOf(1, 1112), shareOf(10, 1112))
	// Of one weight: all of them have one, or none.
	checkAdjusted(t, []int64{9, 2, 9, 2, 2}, 3, one, shareOf(2, 6), one, shareOf(2, 6), shareOf(2, 6))
	checkAdjusted(t, []int64{9, 7, 9, 7, 7}, 3, shareOf(27, 39), shareOf(21, 39), shareOf(27, 39), shareOf(21, 39), shareOf(21, 39))
	checkAdjusted(t, []int64{6, 3, 6, 3}, 3, one, shareOf(3, 6), one, shareOf(3, 6))
	checkAdjusted(t, []int64{5, 3, 5, 3}, 3, shareOf(15, 16), shareOf(9, 16), shareOf(15, 16), shareOf(9, 16))
	// Only because heavier ones had theirs: 3 times 3 is less than 15, 3 times 2 no less than 5.
	checkAdjusted(t, []int64{10, 3, 1, 1}, 3, one, one, shareOf(1, 2), shareOf(1, 2))
	checkAdjusted(t, []int64{1, 3, 1, 10}, 3, shareOf(1, 2), one, shareOf(1, 2), one)
	checkAdjusted(t, []int64{3, 10, 2, 1}, 3, one, one, shareOf(2, 3), shareOf(1, 3))
	// All but two, each because of the one ahead.
	checkAdjusted(t, []int64{128, 64, 32, 16, 8, 4, 2, 1, 1}, 8, one, one, one, one, one, one, one, shareOf(1, 2), shareOf(1, 2))
	checkAdjusted(t, []int64{1, 1, 2, 4, 8, 16, 32, 64, 128}, 7, shareOf(1, 4), shareOf(1, 4), shareOf(2, 4), one, one, one, one, one, one)
	checkAdjusted(t, []int64{3, 3, 2, 3, 3}, 4, shareOf(12, 14), shareOf(12, 14), shareOf(8, 14), shareOf(12, 14), shareOf(12, 14))
}

func TestAdjustedTheHeaviestOneAtEveryPlace(t *testing.T) {
	for size := 2; size <= impl.MaxCrew; size++ {
		for procs := int64(1); procs <= impl.MaxProcs; procs++ {
			for place := range size {
				crew := crewOf(size, 2)
				crew[place] = 1000
				others := shareOf(2*(procs-1), 2*int64(size-1))
				want := sharesOf(size, others)
				want[place] = shareOf(1, 1)
				if procs == 1 {
					want = sharesOf(size, shareOf(2, int64(2*size+998)))
					want[place] = shareOf(1000, int64(2*size+998))
				} else if procs >= int64(size) {
					want = sharesOf(size, shareOf(1, 1))
				}
				checkAdjusted(t, crew, procs, want...)
			}
		}
	}
}

func TestAdjustedIsByItsWords(t *testing.T) {
	for _, crew := range severalCrews() {
		for procs := int64(1); procs <= impl.MaxProcs; procs++ {
			if got, want := impl.Adjusted(crew, procs), wantAdjusted(crew, procs); !slices.Equal(got, want) {
				t.Fatalf("Adjusted(%v, %d) = %v; want %v", crew, procs, got, want)
			}
		}
	}
}

func TestAdjustedFitsAndIsAllOfTheProcessors(t *testing.T) {
	for _, crew := range severalCrews() {
		for procs := int64(1); procs <= impl.MaxProcs; procs++ {
			list := impl.Adjusted(crew, procs)
			if len(list) != len(crew) || !impl.FitsOn(list, procs) {
				t.Fatalf("Adjusted(%v, %d) = %v does not fit", crew, procs, list)
			}
			whole, nums, den := int64(0), int64(0), int64(1)
			for _, s := range list {
				if !impl.ShareOk(s) {
					t.Fatalf("Adjusted(%v, %d) = %v: %v is no share", crew, procs, list, s)
				}
				if s.Num == s.Den {
					whole++
				} else {
					nums, den = nums+s.Num, s.Den
				}
			}
			if whole != impl.WholeOf(list) {
				t.Fatalf("WholeOf(%v) = %d; want %d", list, impl.WholeOf(list), whole)
			}
			if int64(len(crew)) >= procs && whole*den+nums != procs*den {
				t.Fatalf("Adjusted(%v, %d) = %v is not all of them", crew, procs, list)
			}
			if int64(len(crew)) <= procs && whole != int64(len(crew)) {
				t.Fatalf("Adjusted(%v, %d) = %v: not everybody has a whole one", crew, procs, list)
			}
			// Where they are all of these, they fit on no fewer.
			if int64(len(crew)) >= procs && impl.FitsOn(list, procs-1) {
				t.Fatalf("Adjusted(%v, %d) = %v fits on %d", crew, procs, list, procs-1)
			}
		}
	}
}

func TestMoreWeightIsNoLessShare(t *testing.T) {
	for _, crew := range severalCrews() {
		for procs := int64(1); procs <= impl.MaxProcs; procs++ {
			list := impl.Adjusted(crew, procs)
			if len(list) != len(crew) {
				t.Fatalf("Adjusted(%v, %d) = %v", crew, procs, list)
			}
			for i, a := range list {
				for j, b := range list {
					if crew[i] == crew[j] && a != b {
						t.Fatalf("Adjusted(%v, %d) = %v: %d and %d weigh the same", crew, procs, list, i, j)
					}
					if crew[i] > crew[j] && a.Num*b.Den < b.Num*a.Den {
						t.Fatalf("Adjusted(%v, %d) = %v: %d weighs more than %d", crew, procs, list, i, j)
					}
				}
			}
		}
	}
}

func TestMoreProcessorsAreNoLessShare(t *testing.T) {
	for _, crew := range severalCrews() {
		for procs := int64(1); procs < impl.MaxProcs; procs++ {
			few, many := impl.Adjusted(crew, procs), impl.Adjusted(crew, procs+1)
			for i := range crew {
				if many[i].Num*few[i].Den < few[i].Num*many[i].Den {
					t.Fatalf("of %v on %d and on one more: %v and %v", crew, procs, few, many)
				}
			}
		}
	}
}

func TestAdjustedAtTheLimitsOfTheCrew(t *testing.T) {
	for procs := int64(1); procs <= impl.MaxProcs; procs++ {
		for _, weight := range []int64{1, 2, impl.MaxWeight - 1, impl.MaxWeight} {
			checkAdjusted(t, []int64{weight}, procs, shareOf(1, 1))
			checkAdjusted(t, crewOf(impl.MaxCrew, weight), procs, sharesOf(impl.MaxCrew, shareOf(weight*procs, weight*impl.MaxCrew))...)
			checkNotAdjusted(t, crewOf(impl.MaxCrew+1, weight), procs)
		}
		checkNotAdjusted(t, nil, procs)
		checkNotAdjusted(t, []int64{}, procs)
		for _, weight := range []int64{0, impl.MaxWeight + 1} {
			checkNotAdjusted(t, []int64{weight}, procs)
			checkNotAdjusted(t, []int64{3, weight}, procs)
			checkNotAdjusted(t, []int64{weight, 3}, procs)
		}
	}
	// The lightest ones and the heaviest ones there are.
	one := shareOf(1, 1)
	checkAdjusted(t, []int64{1, impl.MaxWeight}, 1, shareOf(1, impl.MaxWeight+1), shareOf(impl.MaxWeight, impl.MaxWeight+1))
	checkAdjusted(t, []int64{1, impl.MaxWeight}, 2, one, one)
	checkAdjusted(t, []int64{1, impl.MaxWeight, 1}, 2, shareOf(1, 2), one, shareOf(1, 2))
	for heavy := 1; heavy < impl.MaxCrew; heavy++ {
		crew := append(crewOf(heavy, impl.MaxWeight), crewOf(impl.MaxCrew-heavy, 1)...)
		for procs := int64(1); procs <= impl.MaxProcs; procs++ {
			light := int64(impl.MaxCrew - heavy)
			want := append(sharesOf(heavy, shareOf(impl.MaxWeight*procs, int64(heavy)*impl.MaxWeight+light)), sharesOf(int(light), shareOf(procs, int64(heavy)*impl.MaxWeight+light))...)
			if procs > int64(heavy) {
				left := procs - int64(heavy)
				want = append(sharesOf(heavy, one), sharesOf(int(light), shareOf(left, light))...)
			}
			checkAdjusted(t, crew, procs, want...)
		}
	}
}

func TestAdjustedAtTheLimitsOfTheProcessors(t *testing.T) {
	checkAdjusted(t, []int64{3, 1}, 1, shareOf(3, 4), shareOf(1, 4))
	checkAdjusted(t, crewOf(9, 2), impl.MaxProcs, sharesOf(9, shareOf(16, 18))...)
	checkAdjusted(t, crewOf(8, 2), impl.MaxProcs, sharesOf(8, shareOf(1, 1))...)
	checkAdjusted(t, crewOf(7, 2), impl.MaxProcs, sharesOf(7, shareOf(1, 1))...)
	for _, procs := range wrongProcs() {
		for _, crew := range [][]int64{{1}, {3, 1}, {5, 5, 5}, crewOf(9, 2), crewOf(impl.MaxCrew, impl.MaxWeight), nil, {0}, crewOf(impl.MaxCrew+1, 1)} {
			checkNotAdjusted(t, crew, procs)
		}
	}
}

func TestAdjustedOfWrongCrews(t *testing.T) {
	for _, crew := range wrongCrews() {
		for _, procs := range append(wrongProcs(), 1, 2, 3, impl.MaxProcs-1, impl.MaxProcs) {
			checkNotAdjusted(t, crew, procs)
		}
	}
}

func TestWholeOfCounts(t *testing.T) {
	checkWhole(t, nil, 0)
	checkWhole(t, []impl.Share{}, 0)
	checkWhole(t, []impl.Share{shareOf(1, 1)}, 1)
	checkWhole(t, []impl.Share{shareOf(1, 2)}, 0)
	checkWhole(t, []impl.Share{shareOf(1, 2), shareOf(1, 1), shareOf(1, 2)}, 1)
	checkWhole(t, []impl.Share{shareOf(1, 1), shareOf(1, 2), shareOf(2, 3), shareOf(1, 1)}, 2)
	// Of another Den, at the limits.
	checkWhole(t, []impl.Share{shareOf(2, 2), shareOf(2, 3), shareOf(3, 3), shareOf(3, 2)}, 2)
	checkWhole(t, []impl.Share{shareOf(impl.MaxDen, impl.MaxDen), shareOf(impl.MaxDen-1, impl.MaxDen), shareOf(impl.MaxDen-1, impl.MaxDen-1)}, 2)
	checkWhole(t, []impl.Share{shareOf(1, impl.MaxDen), shareOf(impl.MaxDen, 1)}, 0)
	for n := range 60 {
		checkWhole(t, sharesOf(n, shareOf(5, 5)), int64(n))
		checkWhole(t, sharesOf(n, shareOf(4, 5)), 0)
		checkWhole(t, append(sharesOf(n, shareOf(4, 5)), sharesOf(n, shareOf(1, 1))...), int64(n))
	}
	for _, s := range manyShares() {
		want := int64(0)
		if s.Num == s.Den {
			want = 1
		}
		checkWhole(t, []impl.Share{s}, want)
		checkWhole(t, []impl.Share{shareOf(1, 1), s}, want+1)
	}
}

func TestWholeOfThoseThatAreNotRight(t *testing.T) {
	// It only asks whether Num is Den, however many there are.
	checkWhole(t, []impl.Share{{}}, 1)
	checkWhole(t, []impl.Share{shareOf(-1, -1), shareOf(-1, 1), shareOf(1, -1), shareOf(0, 1)}, 1)
	checkWhole(t, []impl.Share{shareOf(impl.MaxDen+1, impl.MaxDen+1), shareOf(1, 1), shareOf(2, 1)}, 2)
	checkWhole(t, []impl.Share{shareOf(math.MinInt64, math.MinInt64), shareOf(math.MaxInt64, math.MaxInt64)}, 2)
	checkWhole(t, []impl.Share{shareOf(math.MinInt64, math.MaxInt64), shareOf(math.MaxInt64, math.MinInt64), shareOf(math.MinInt64, 0)}, 0)
	checkWhole(t, []impl.Share{shareOf(1<<32+1, 1), shareOf(1, 1<<32+1)}, 0)
	checkWhole(t, sharesOf(1000, shareOf(0, 0)), 1000)
	all := int64(0)
	for _, s := range wrongShares() {
		want := int64(0)
		if s.Num == s.Den {
			want = 1
		}
		checkWhole(t, []impl.Share{s}, want)
		all += want
	}
	checkWhole(t, wrongShares(), all)
}

func TestFitsOnOrdinary(t *testing.T) {
	one, half := shareOf(1, 1), shareOf(1, 2)
	// Nobody fits on every number there is.
	checkFitsFrom(t, nil, 1)
	checkFitsFrom(t, []impl.Share{}, 1)
	checkFitsFrom(t, make([]impl.Share, 0, 4), 1)
	checkFitsFrom(t, []impl.Share{one}, 1)
	checkFitsFrom(t, []impl.Share{half}, 1)
	checkFitsFrom(t, []impl.Share{half, half}, 1)
	checkFitsFrom(t, []impl.Share{half, half, half}, 2)
	checkFitsFrom(t, []impl.Share{half, one, half}, 2)
	checkFitsFrom(t, []impl.Share{half, one}, 2)
	checkFitsFrom(t, []impl.Share{one, one, one}, 3)
	checkFitsFrom(t, []impl.Share{shareOf(2, 3), shareOf(2, 3)}, 2)
	checkFitsFrom(t, []impl.Share{shareOf(2, 3), shareOf(1, 3)}, 1)
	checkFitsFrom(t, []impl.Share{one, shareOf(2, 3), one, shareOf(2, 3), one}, 5)
	checkFitsFrom(t, []impl.Share{one, shareOf(2, 3), one, shareOf(1, 3), one}, 4)
}

func TestFitsOnWholeOnes(t *testing.T) {
	for n := range impl.MaxCrew + 1 {
		for _, den := range []int64{1, 2, 7, impl.MaxDen} {
			checkFitsFrom(t, sharesOf(n, shareOf(den, den)), int64(n))
		}
		// With one beside them there must be one more.
		if n < impl.MaxCrew {
			checkFitsFrom(t, append(sharesOf(n, shareOf(1, 1)), shareOf(1, 1000)), int64(n)+1)
			checkFitsFrom(t, append([]impl.Share{shareOf(1, 1000)}, sharesOf(n, shareOf(1, 1))...), int64(n)+1)
		}
	}
	// Whole ones of many a Den.
	checkFitsFrom(t, []impl.Share{shareOf(1, 1), shareOf(2, 2), shareOf(3, 3), shareOf(impl.MaxDen, impl.MaxDen)}, 4)
}

func TestFitsOnOneDenAmongThoseThatAreNotWhole(t *testing.T) {
	// Two Dens never fit, though they would have room, and be alike.
	checkNeverFits(t, []impl.Share{shareOf(1, 2), shareOf(1, 3)})
	checkNeverFits(t, []impl.Share{shareOf(1, 2), shareOf(2, 4)})
	checkNeverFits(t, []impl.Share{shareOf(1, 3), shareOf(1, 3), shareOf(1, 4)})
	checkNeverFits(t, []impl.Share{shareOf(1, 4), shareOf(1, 3), shareOf(1, 3)})
	checkNeverFits(t, []impl.Share{shareOf(1, 3), shareOf(1, 4), shareOf(1, 3)})
	checkNeverFits(t, []impl.Share{shareOf(1, impl.MaxDen), shareOf(1, impl.MaxDen-1)})
	checkNeverFits(t, []impl.Share{shareOf(1, 1), shareOf(1, 3), shareOf(1, 1), shareOf(1, 4), shareOf(1, 1)})
	// A whole one may have another Den, wherever it stands.
	checkFitsFrom(t, []impl.Share{shareOf(1, 3), shareOf(5, 5), shareOf(2, 3)}, 2)
	checkFitsFrom(t, []impl.Share{shareOf(5, 5), shareOf(1, 3), shareOf(2, 3)}, 2)
	checkFitsFrom(t, []impl.Share{shareOf(1, 3), shareOf(2, 3), shareOf(5, 5)}, 2)
	checkFitsFrom(t, []impl.Share{shareOf(5, 5), shareOf(1, 3), shareOf(7, 7), shareOf(2, 3), shareOf(3, 3)}, 4)
	// In the place of each one of a full list.
	for place := range impl.MaxCrew {
		list := sharesOf(impl.MaxCrew, shareOf(1, 100))
		checkFitsFrom(t, list, 1)
		list[place] = shareOf(1, 101)
		checkNeverFits(t, list)
		list[place] = shareOf(101, 101)
		checkFitsFrom(t, list, 2)
	}
}

func TestFitsOnJustWhatIsLeft(t *testing.T) {
	for _, den := range []int64{2, 3, 24, 1000, impl.MaxDen - 1, impl.MaxDen} {
		for whole := range 4 {
			for left := 1; left <= 4; left++ {
				// Two of them are a processor together.
				list := append(sharesOf(whole, shareOf(1, 1)), sharesOf(left, shareOf(den-1, den))...)
				list = append(list, sharesOf(left, shareOf(1, den))...)
				checkFitsFrom(t, list, int64(whole+left))
				checkFitsFrom(t, append(list, shareOf(1, den)), int64(whole+left+1))
				slices.Reverse(list)
				checkFitsFrom(t, list, int64(whole+left))
				checkFitsFrom(t, append(list, shareOf(1, den)), int64(whole+left+1))
			}
		}
	}
	// By hand: the Nums are 11 and 12 of 6, beside a whole one.
	checkFitsFrom(t, []impl.Share{shareOf(5, 6), shareOf(1, 1), shareOf(5, 6), shareOf(1, 6)}, 3)
	checkFitsFrom(t, []impl.Share{shareOf(5, 6), shareOf(1, 1), shareOf(5, 6), shareOf(2, 6)}, 3)
	checkFitsFrom(t, []impl.Share{shareOf(5, 6), shareOf(1, 1), shareOf(5, 6), shareOf(3, 6)}, 4)
	// A whole one takes a processor, not its Num of what is left.
	checkFitsFrom(t, []impl.Share{shareOf(6, 6), shareOf(5, 6), shareOf(1, 6)}, 2)
	checkFitsFrom(t, []impl.Share{shareOf(6, 6), shareOf(1, 6)}, 2)
}

func TestFitsOnAtTheLimits(t *testing.T) {
	const most = impl.MaxDen
	// As many as there may be, and one more.
	checkFitsFrom(t, sharesOf(impl.MaxCrew, shareOf(1, impl.MaxCrew)), 1)
	checkNeverFits(t, sharesOf(impl.MaxCrew+1, shareOf(1, impl.MaxCrew+1)))
	checkNeverFits(t, sharesOf(impl.MaxCrew+1, shareOf(1, 100)))
	checkNeverFits(t, sharesOf(1000, shareOf(1, 1000)))
	checkFitsFrom(t, sharesOf(impl.MaxCrew, shareOf(1, 3)), 8)
	checkFitsFrom(t, sharesOf(impl.MaxCrew-1, shareOf(1, 3)), 8)
	checkNeverFits(t, sharesOf(impl.MaxCrew+1, shareOf(1, 3)))
	// MaxProcs just full, and one more than that.
	checkFitsFrom(t, sharesOf(impl.MaxProcs, shareOf(1, 1)), impl.MaxProcs)
	checkNeverFits(t, sharesOf(impl.MaxProcs+1, shareOf(1, 1)))
	checkNeverFits(t, append(sharesOf(impl.MaxProcs, shareOf(1, 1)), shareOf(1, most)))
	checkNeverFits(t, sharesOf(impl.MaxCrew, shareOf(1, 1)))
	checkNeverFits(t, sharesOf(impl.MaxCrew, shareOf(most-1, most)))
	checkFitsFrom(t, sharesOf(16, shareOf(1, 2)), impl.MaxProcs)
	checkNeverFits(t, sharesOf(17, shareOf(1, 2)))
	// Den is just MaxDen, and one more.
	checkFitsFrom(t, []impl.Share{shareOf(1, most), shareOf(most-1, most)}, 1)
	checkFitsFrom(t, []impl.Share{shareOf(2, most), shareOf(most-1, most)}, 2)
	checkFitsFrom(t, []impl.Share{shareOf(most, most)}, 1)
	checkFitsFrom(t, sharesOf(7, shareOf(most-1, most)), 7)
	checkNeverFits(t, []impl.Share{shareOf(1, most+1)})
	checkNeverFits(t, []impl.Share{shareOf(most, most+1)})
	checkNeverFits(t, []impl.Share{shareOf(most+1, most+1)})
	checkNeverFits(t, []impl.Share{shareOf(1, 1), shareOf(most+1, most+1)})
}

func TestFitsOnWrongShares(t *testing.T) {
	for _, s := range wrongShares() {
		checkNeverFits(t, []impl.Share{s})
		checkNeverFits(t, []impl.Share{s, s})
		checkNeverFits(t, []impl.Share{s, shareOf(1, 1)})
		checkNeverFits(t, []impl.Share{shareOf(1, 9), s})
		checkNeverFits(t, []impl.Share{shareOf(1, 1), s, shareOf(1, 9)})
		// Beside one of the same Den, where there is such a one.
		checkNeverFits(t, []impl.Share{shareOf(1, s.Den), s, shareOf(1, s.Den)})
		checkNeverFits(t, sharesOf(impl.MaxCrew, s))
		checkNeverFits(t, sharesOf(impl.MaxCrew+1, s))
	}
	// In the place of each one of a full list.
	for place := range impl.MaxCrew {
		for _, s := range []impl.Share{{}, shareOf(0, 100), shareOf(-1, 100), shareOf(101, 100), shareOf(-100, -100), shareOf(math.MinInt64, 100), shareOf(math.MaxInt64, 100)} {
			list := sharesOf(impl.MaxCrew, shareOf(1, 100))
			list[place] = s
			checkNeverFits(t, list)
		}
	}
	// Numbers that would be right together, were they to wrap round.
	checkNeverFits(t, []impl.Share{shareOf(math.MaxInt64, 5), shareOf(math.MaxInt64, 5), shareOf(3, 5)})
	checkNeverFits(t, []impl.Share{shareOf(math.MinInt64, 5), shareOf(math.MinInt64, 5), shareOf(3, 5)})
	checkNeverFits(t, []impl.Share{shareOf(-1, 5), shareOf(4, 5), shareOf(2, 5)})
}

func TestFitsOnIsByItsWords(t *testing.T) {
	check := func(list []impl.Share) {
		for procs := int64(-1); procs <= impl.MaxProcs+1; procs++ {
			if got, want := impl.FitsOn(list, procs), wantFits(list, procs); got != want {
				t.Fatalf("FitsOn(%v, %d) = %v; want %v", list, procs, got, want)
			}
		}
	}
	// All short lists of these.
	kinds := []impl.Share{shareOf(1, 1), shareOf(2, 2), shareOf(3, 3), shareOf(1, 2), shareOf(1, 3), shareOf(2, 3), shareOf(4, 3), shareOf(0, 3)}
	lists := [][]impl.Share{nil}
	for at := 0; at < len(lists); at++ {
		check(lists[at])
		if len(lists[at]) < 4 {
			for _, s := range kinds {
				lists = append(lists, append(slices.Clone(lists[at]), s))
			}
		}
	}
	// What is right, one by one and one behind the other.
	shares := append(manyShares(), wrongShares()...)
	for i, s := range shares {
		for n := range impl.MaxCrew + 2 {
			check(sharesOf(n, s))
			check(append(sharesOf(n, s), shareOf(1, 1), s))
			check(shares[i:min(i+n, len(shares))])
		}
	}
	// Those of crews, on other numbers of processors than they were made for.
	for _, crew := range severalCrews() {
		for procs := int64(1); procs <= impl.MaxProcs; procs++ {
			check(wantAdjusted(crew, procs))
		}
	}
}

func TestAdjustLeavesItsArgumentsAsTheyWere(t *testing.T) {
	for _, crew := range append(severalCrews(), wrongCrews()...) {
		given := withRoom(crew)
		all := slices.Clone(given[:len(given)+3])
		for procs := int64(-1); procs <= impl.MaxProcs+1; procs++ {
			impl.Adjusted(given, procs)
		}
		if !slices.Equal(given[:len(given)+3], all) {
			t.Fatalf("was %v, is %v", all, given[:len(given)+3])
		}
	}
	for k, s := range append(manyShares(), wrongShares()...) {
		given := sharesWithRoom(append(sharesOf(k%26, s), shareOf(1, 1), shareOf(1, 7)))
		all := slices.Clone(given[:len(given)+3])
		impl.WholeOf(given)
		for procs := int64(-1); procs <= impl.MaxProcs+1; procs++ {
			impl.FitsOn(given, procs)
		}
		if !slices.Equal(given[:len(given)+3], all) {
			t.Fatalf("was %v, is %v", all, given[:len(given)+3])
		}
	}
}

func TestAdjustedIsNewMemory(t *testing.T) {
	for _, crew := range severalCrews() {
		for _, procs := range []int64{1, 3, impl.MaxProcs} {
			want := wantAdjusted(crew, procs)
			given := withRoom(crew)
			first, second := impl.Adjusted(given, procs), impl.Adjusted(given, procs)
			spoilShares(first)
			if !slices.Equal(given, crew) || !slices.Equal(second, want) {
				t.Fatalf("Adjusted(%v, %d): a change in one answer is seen elsewhere", crew, procs)
			}
			spoil(given)
			if !slices.Equal(second, want) {
				t.Fatalf("Adjusted(%v, %d): a change of the crew is seen in the answer", crew, procs)
			}
		}
	}
}

func TestAdjustAnswersTheSameEachTime(t *testing.T) {
	for _, crew := range severalCrews() {
		for procs := int64(1); procs <= impl.MaxProcs; procs++ {
			list := impl.Adjusted(crew, procs)
			again := impl.Adjusted(withRoom(crew), procs)
			room := sharesWithRoom(list)
			if !slices.Equal(list, again) || impl.WholeOf(list) != impl.WholeOf(room) || impl.FitsOn(list, procs) != impl.FitsOn(room, procs) {
				t.Fatal(crew, procs)
			}
		}
	}
}
