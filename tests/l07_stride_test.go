package tests

import (
	"math"
	"slices"
	"testing"

	"loop.example/g00763/impl"
)

// checkLast asks who is last: alone, and as a run of one turn where there is room for it.
func checkLast(t *testing.T, crew []int64, counts []int64, last int64) {
	t.Helper()
	if got := impl.StrideNext(crew, counts); got != last {
		t.Errorf("StrideNext(%v, %v) = %d; want %d", crew, counts, got, last)
	}
	then := slices.Clone(counts)
	then[last]++
	if impl.CountsOk(crew, then) {
		checkStride(t, crew, counts, 1, then, last)
	} else {
		checkNoStride(t, crew, counts, 1)
	}
}

func checkStride(t *testing.T, crew []int64, counts []int64, n int64, then []int64, taken ...int64) {
	t.Helper()
	if got, who := impl.StrideRun(crew, counts, n); !slices.Equal(got, then) || !slices.Equal(who, taken) {
		t.Errorf("StrideRun(%v, %v, %d) = %v, %v; want %v, %v", crew, counts, n, got, who, then, taken)
	}
}

func checkNoStride(t *testing.T, crew []int64, counts []int64, n int64) {
	t.Helper()
	if got, who := impl.StrideRun(crew, counts, n); len(got) != 0 || len(who) != 0 {
		t.Errorf("StrideRun(%v, %v, %d) = %v, %v; want nothing and nothing", crew, counts, n, got, who)
	}
}

// checkNobodyIsLast is for what are no counts of a crew.
func checkNobodyIsLast(t *testing.T, crew []int64, counts []int64) {
	t.Helper()
	if got := impl.StrideNext(crew, counts); got != -1 {
		t.Errorf("StrideNext(%v, %v) = %d; want -1", crew, counts, got)
	}
	for _, n := range append(wrongSteps(), 0, 1, 2, impl.MaxSteps) {
		checkNoStride(t, crew, counts, n)
	}
}

// wantLast is by the document's words: nobody has come less far, and nobody
// ahead of it in the list as far. What both products are at most, int64 has room for.
func wantLast(crew []int64, counts []int64) int64 {
	last := 0
	for i := range crew {
		if counts[i]*crew[last] < counts[last]*crew[i] {
			last = i
		}
	}
	return int64(last)
}

// wantStride is a run that can be done, turn by turn.
func wantStride(crew []int64, counts []int64, n int64) ([]int64, []int64) {
	then, taken := slices.Clone(counts), []int64{}
	for range n {
		last := wantLast(crew, then)
		then[last]++
		taken = append(taken, last)
	}
	return then, taken
}

func turnsOf(counts []int64) int64 {
	turns := int64(0)
	for _, count := range counts {
		turns += count
	}
	return turns
}

// strideFor is a run from no counts of as many turns as are asked for, in as many runs as it takes.
func strideFor(t *testing.T, crew []int64, turns int64) []int64 {
	t.Helper()
	counts := make([]int64, len(crew))
	for left := turns; left > 0; left -= impl.MaxSteps {
		then, taken := impl.StrideRun(crew, counts, min(left, impl.MaxSteps))
		if int64(len(taken)) != min(left, impl.MaxSteps) || len(then) != len(crew) {
			t.Fatalf("StrideRun(%v, %v, %d) = %v, %v", crew, counts, min(left, impl.MaxSteps), then, taken)
		}
		counts = then
	}
	return counts
}

func TestStrideOrdinary(t *testing.T) {
	crew := []int64{3, 1}
	checkStride(t, crew, []int64{0, 0}, 8, []int64{6, 2}, 0, 1, 0, 0, 0, 1, 0, 0)
	checkLast(t, crew, []int64{1, 0}, 1)
	checkLast(t, crew, []int64{1, 1}, 0)
	checkLast(t, crew, []int64{2, 1}, 0)
	checkLast(t, crew, []int64{3, 1}, 0)
	checkLast(t, crew, []int64{4, 1}, 1)
	checkLast(t, crew, []int64{100, 1}, 1)
	checkLast(t, crew, []int64{1, 100}, 0)

	crew = []int64{1, 2, 3}
	checkStride(t, crew, []int64{0, 0, 0}, 6, []int64{1, 2, 3}, 0, 1, 2, 2, 1, 2)
	checkStride(t, crew, []int64{1, 2, 3}, 3, []int64{2, 3, 4}, 0, 1, 2)
	checkStride(t, crew, []int64{3, 0, 1}, 7, []int64{3, 3, 5}, 1, 2, 1, 2, 1, 2, 2)
	checkStride(t, crew, []int64{9, 4, 5}, 4, []int64{9, 5, 8}, 2, 1, 2, 2)
	checkLast(t, crew, []int64{9, 4, 5}, 2)
	checkLast(t, crew, []int64{2, 3, 5}, 1)

	// What counts is how far, not how often: the one that had most is last here.
	checkLast(t, []int64{100, 1, 7}, []int64{50, 1, 4}, 0)
	checkLast(t, []int64{1, 7, 100}, []int64{1, 4, 50}, 2)
	checkLast(t, []int64{1, 100, 7}, []int64{1, 50, 4}, 1)
	checkLast(t, []int64{5}, []int64{12}, 0)
}

func TestStrideTiesByHand(t *testing.T) {
	// All have had nothing.
	checkLast(t, []int64{4, 4, 4}, []int64{0, 0, 0}, 0)
	checkLast(t, []int64{1, 9, 1000}, []int64{0, 0, 0}, 0)
	checkLast(t, []int64{1000, 9, 1}, []int64{0, 0, 0}, 0)
	checkStride(t, []int64{2, 2, 2, 2}, []int64{0, 0, 0, 0}, 9, []int64{3, 2, 2, 2}, 0, 1, 2, 3, 0, 1, 2, 3, 0)
	// Some have had nothing.
	checkLast(t, []int64{1, 9, 1000, 3}, []int64{1, 0, 0, 0}, 1)
	checkLast(t, []int64{1, 9, 1000, 3}, []int64{1, 1, 0, 0}, 2)
	checkLast(t, []int64{1, 9, 1000, 3}, []int64{0, 1, 1, 0}, 0)

	// Equal ratios of unlike counts and weights: at the start, in the middle, at the end.
	checkLast(t, []int64{2, 4, 6}, []int64{1, 2, 3}, 0)
	checkLast(t, []int64{6, 4, 2}, []int64{3, 2, 1}, 0)
	checkLast(t, []int64{3, 6, 5, 5}, []int64{1, 2, 3, 3}, 0)
	checkLast(t, []int64{6, 3, 5, 5}, []int64{2, 1, 3, 3}, 0)
	checkLast(t, []int64{5, 3, 6, 5}, []int64{3, 1, 2, 3}, 1)
	checkLast(t, []int64{5, 6, 3, 5}, []int64{3, 2, 1, 3}, 1)
	checkLast(t, []int64{5, 5, 3, 6}, []int64{3, 3, 1, 2}, 2)
	checkLast(t, []int64{5, 5, 6, 3}, []int64{3, 3, 2, 1}, 2)
	checkLast(t, []int64{3, 5, 5, 6}, []int64{1, 3, 3, 2}, 0)
	checkLast(t, []int64{49, 7, 21, 14}, []int64{21, 3, 9, 6}, 0)
	// Those that are further tie, too.
	checkLast(t, []int64{2, 4, 10, 20, 5}, []int64{1, 2, 3, 6, 2}, 2)
	checkLast(t, []int64{2, 4, 5, 20, 10}, []int64{1, 2, 2, 6, 3}, 3)
}

// tied has all of these at 2 of 7 of their way, and all others further by the least that their weight allows.
func tied(size int, those ...int) counted {
	c := counted{make([]int64, size), make([]int64, size)}
	for i := range size {
		times := int64(i*5%9 + 1)
		c.crew[i], c.counts[i] = 7*times, 2*times+1
	}
	for _, i := range those {
		c.counts[i] = 2 * c.crew[i] / 7
	}
	return c
}

func TestStrideTiesAtEveryPlace(t *testing.T) {
	for size := 2; size <= impl.MaxCrew; size++ {
		for i := range size {
			for j := i + 1; j < size; j++ {
				for k := j; k < size; k++ {
					c := tied(size, i, j, k)
					if got := impl.StrideNext(c.crew, c.counts); got != int64(i) {
						t.Fatalf("StrideNext(%v, %v) = %d; want %d", c.crew, c.counts, got, i)
					}
					// Each of them has its turn, in order of the crew.
					want := slices.Compact([]int64{int64(i), int64(j), int64(k)})
					if _, who := impl.StrideRun(c.crew, c.counts, int64(len(want))); !slices.Equal(who, want) {
						t.Fatalf("StrideRun(%v, %v) takes %v; want %v", c.crew, c.counts, who, want)
					}
				}
			}
		}
	}
}

func TestStrideTiesOfAll(t *testing.T) {
	for size := 1; size <= impl.MaxCrew; size++ {
		var all []int
		var inOrder []int64
		for i := range size {
			all, inOrder = append(all, i), append(inOrder, int64(i))
		}
		c := tied(size, all...)
		then := slices.Clone(c.counts)
		for i := range then {
			then[i]++
		}
		checkLast(t, c.crew, c.counts, 0)
		checkStride(t, c.crew, c.counts, int64(size), then, inOrder...)
		checkStride(t, c.crew, make([]int64, size), int64(size), crewOf(size, 1), inOrder...)
	}
}

func TestStrideRatiosThatDifferByTheLeast(t *testing.T) {
	const heavy = impl.MaxWeight
	pairs := []struct{ less, more [2]int64 }{
		{[2]int64{1, heavy}, [2]int64{1, heavy - 1}},
		{[2]int64{333332, heavy - 3}, [2]int64{333333, heavy}},
		{[2]int64{483871, heavy}, [2]int64{483856, heavy - 31}},
		{[2]int64{499999, heavy}, [2]int64{499999, heavy - 1}},
		{[2]int64{499999, heavy}, [2]int64{500000, heavy}},
		{[2]int64{499999, 1}, [2]int64{500000, 1}},
		{[2]int64{0, 1}, [2]int64{1, heavy}},
		{[2]int64{0, heavy}, [2]int64{1, heavy}},
		{[2]int64{1, 3}, [2]int64{333334, heavy}},
		{[2]int64{333333, heavy}, [2]int64{1, 3}},
		{[2]int64{2, 7}, [2]int64{285715, heavy}},
		{[2]int64{285714, heavy}, [2]int64{2, 7}},
	}
	for _, p := range pairs {
		checkLast(t, []int64{p.less[1], p.more[1]}, []int64{p.less[0], p.more[0]}, 0)
		checkLast(t, []int64{p.more[1], p.less[1]}, []int64{p.more[0], p.less[0]}, 1)
		// At every place of a full crew of which all others are at 1, further than these, if there is room for them.
		if p.more[0] > p.more[1] || p.less[0]+p.more[0]+impl.MaxCrew-2 > impl.MaxTime {
			continue
		}
		for i := range impl.MaxCrew {
			other := (i + 11) % impl.MaxCrew
			crew, counts := crewOf(impl.MaxCrew, 1), crewOf(impl.MaxCrew, 1)
			crew[i], counts[i] = p.less[1], p.less[0]
			crew[other], counts[other] = p.more[1], p.more[0]
			checkLast(t, crew, counts, int64(i))
		}
	}
	// The same ratio as great as it gets and reduced is no difference.
	checkLast(t, []int64{heavy, 2}, []int64{500000, 1}, 0)
	checkLast(t, []int64{2, heavy}, []int64{1, 500000}, 0)
	checkLast(t, []int64{7, 999999}, []int64{2, 285714}, 0)
	checkLast(t, []int64{999999, 7}, []int64{285714, 2}, 0)
}

func TestStrideAtTheLimitsOfTheCrew(t *testing.T) {
	for _, weight := range []int64{1, 2, impl.MaxWeight} {
		checkStride(t, []int64{weight}, []int64{0}, 3, []int64{3}, 0, 0, 0)
		checkLast(t, []int64{weight}, []int64{0}, 0)
		crew := crewOf(impl.MaxCrew, weight)
		for last := range impl.MaxCrew {
			counts := crewOf(impl.MaxCrew, 5)
			counts[last] = 4
			checkLast(t, crew, counts, int64(last))
		}
		checkNobodyIsLast(t, crewOf(impl.MaxCrew+1, weight), make([]int64, impl.MaxCrew+1))
		checkNobodyIsLast(t, crewOf(impl.MaxCrew+1, weight), make([]int64, impl.MaxCrew))
		checkNobodyIsLast(t, crewOf(impl.MaxCrew, weight), make([]int64, impl.MaxCrew+1))
	}
	// The lightest one and the heaviest one there is.
	checkStride(t, []int64{1, impl.MaxWeight}, []int64{0, 0}, 5, []int64{1, 4}, 0, 1, 1, 1, 1)
	checkStride(t, []int64{impl.MaxWeight, 1}, []int64{0, 0}, 5, []int64{4, 1}, 0, 1, 0, 0, 0)
	checkLast(t, []int64{1, impl.MaxWeight}, []int64{1, 999999}, 1)
	checkNobodyIsLast(t, nil, nil)
	checkNobodyIsLast(t, []int64{}, []int64{})
	checkNobodyIsLast(t, nil, []int64{0})
	checkNobodyIsLast(t, []int64{0}, []int64{0})
	checkNobodyIsLast(t, []int64{impl.MaxWeight + 1}, []int64{0})
	checkNobodyIsLast(t, []int64{3, impl.MaxWeight + 1}, []int64{0, 0})
	checkNobodyIsLast(t, []int64{0, 3}, []int64{0, 0})
}

func TestStrideAtTheLimitsOfTheCounts(t *testing.T) {
	const most = impl.MaxTime
	// One alone had all; somebody is last still, but no turn is left.
	checkLast(t, []int64{4}, []int64{most}, 0)
	checkLast(t, []int64{4, 9}, []int64{most, 0}, 1)
	checkLast(t, []int64{4, 9}, []int64{0, most}, 0)
	for had := range impl.MaxCrew {
		counts := make([]int64, impl.MaxCrew)
		counts[had] = most
		last := int64(0)
		if had == 0 {
			last = 1
		}
		checkLast(t, crewOf(impl.MaxCrew, impl.MaxWeight), counts, last)
		checkLast(t, crewOf(impl.MaxCrew, 1), counts, last)
	}
	// All had so much together.
	checkLast(t, []int64{1, 3}, []int64{250000, 750000}, 0)
	checkLast(t, []int64{1, 3}, []int64{250001, 749999}, 1)
	checkLast(t, []int64{1, 3}, []int64{249999, 750001}, 0)
	checkLast(t, []int64{1, 3}, []int64{most - 1, 1}, 1)
	// One past it, alone and together.
	checkNobodyIsLast(t, []int64{4}, []int64{most + 1})
	checkNobodyIsLast(t, []int64{4, 9}, []int64{most + 1, 0})
	checkNobodyIsLast(t, []int64{4, 9}, []int64{0, most + 1})
	checkNobodyIsLast(t, []int64{4, 9}, []int64{most, 1})
	checkNobodyIsLast(t, []int64{1, 3}, []int64{250000, 750001})
	checkNobodyIsLast(t, []int64{4}, []int64{-1})
	checkNobodyIsLast(t, []int64{4, 9}, []int64{0, -1})
	checkNobodyIsLast(t, []int64{4, 9}, []int64{-1, 1})
	checkNobodyIsLast(t, []int64{4, 9}, []int64{most + 1, -1})
}

func TestStrideRunAtTheLimitsOfSteps(t *testing.T) {
	for _, crew := range [][]int64{{4}, {3, 1}, {5, 1, 1}, {1, impl.MaxWeight}, crewOf(impl.MaxCrew, impl.MaxWeight)} {
		for _, counts := range [][]int64{make([]int64, len(crew)), crewOf(len(crew), 8)} {
			checkStride(t, crew, counts, 0, counts)
			for _, n := range []int64{impl.MaxSteps - 1, impl.MaxSteps} {
				then, taken := wantStride(crew, counts, n)
				checkStride(t, crew, counts, n, then, taken...)
			}
			for _, n := range wrongSteps() {
				checkNoStride(t, crew, counts, n)
			}
		}
	}
}

func TestStrideRunThatWouldJustBeRight(t *testing.T) {
	for _, crew := range [][]int64{{4}, {3, 1}, {1, 3}, {5, 1, 1}, {1, impl.MaxWeight}, {2, 9, 4, 9, 1}, crewOf(impl.MaxCrew, 6)} {
		for _, room := range []int64{0, 1, 2, 17, impl.MaxSteps - 1, impl.MaxSteps} {
			// One of them had all but this room; and all had as much as one another.
			one, all := make([]int64, len(crew)), crewOf(len(crew), (impl.MaxTime-room)/int64(len(crew)))
			one[len(crew)/2] = impl.MaxTime - room
			all[0] += (impl.MaxTime - room) % int64(len(crew))
			for _, counts := range [][]int64{one, all} {
				then, taken := wantStride(crew, counts, room)
				checkStride(t, crew, counts, room, then, taken...)
				checkStride(t, crew, counts, 0, counts)
				if got := turnsOf(then); got != impl.MaxTime {
					t.Fatalf("a run of %d from %v has %d turns in the end", room, counts, got)
				}
				checkLast(t, crew, then, wantLast(crew, then))
				for _, n := range []int64{room + 1, room + 2, impl.MaxSteps, impl.MaxSteps + 1} {
					if n > room {
						checkNoStride(t, crew, counts, n)
					}
				}
			}
		}
	}
	// That there is room for each one of them is not enough.
	checkStride(t, []int64{3, 1}, []int64{500000, 499999}, 1, []int64{500001, 499999}, 0)
	checkNoStride(t, []int64{3, 1}, []int64{500000, 499999}, 2)
}

func TestStrideOfWrongCounts(t *testing.T) {
	for _, c := range wrongCounts() {
		checkNobodyIsLast(t, c.crew, c.counts)
	}
}

func TestStrideOfTheGreatestAndTheLeast(t *testing.T) {
	for _, wrong := range []int64{math.MinInt64, math.MinInt64 + 1, math.MaxInt64 - 1, math.MaxInt64} {
		checkNobodyIsLast(t, []int64{wrong}, []int64{0})
		checkNobodyIsLast(t, []int64{2}, []int64{wrong})
		checkNobodyIsLast(t, []int64{wrong}, []int64{wrong})
		checkNobodyIsLast(t, []int64{wrong, wrong}, []int64{wrong, wrong})
		checkNobodyIsLast(t, []int64{1, wrong, 4}, []int64{0, 0, 0})
		checkNobodyIsLast(t, []int64{1, 2, 4}, []int64{0, 0, wrong})
		checkNobodyIsLast(t, []int64{1, 2}, []int64{wrong, -wrong})
		checkNoStride(t, []int64{1, 2, 4}, []int64{0, 0, 0}, wrong)
		checkNoStride(t, []int64{1, 2, 4}, []int64{impl.MaxTime, 0, 0}, wrong)
	}
}

func TestStrideIsByItsWords(t *testing.T) {
	for k, c := range manyCounts() {
		if got, want := impl.StrideNext(c.crew, c.counts), wantLast(c.crew, c.counts); got != want {
			t.Fatalf("StrideNext(%v, %v) = %d; want %d", c.crew, c.counts, got, want)
		}
		n := int64(k % 70)
		if turnsOf(c.counts)+n > impl.MaxTime {
			checkNoStride(t, c.crew, c.counts, n)
			continue
		}
		then, taken := wantStride(c.crew, c.counts, n)
		checkStride(t, c.crew, c.counts, n, then, taken...)
	}
}

func TestStrideRunIsStrideNextSoOften(t *testing.T) {
	for k, c := range manyCounts() {
		if k%11 != 0 {
			continue
		}
		at, all := slices.Clone(c.counts), []int64{}
		for n := range int64(40) {
			if turnsOf(c.counts)+n > impl.MaxTime {
				checkNoStride(t, c.crew, c.counts, n)
				continue
			}
			checkStride(t, c.crew, c.counts, n, at, all...)
			who := impl.StrideNext(c.crew, at)
			at[who]++
			all = append(all, who)
		}
	}
}

func TestStrideCountsAreOneMoreForEachTime(t *testing.T) {
	for k, c := range manyCounts() {
		n := min(int64(k%300), impl.MaxTime-turnsOf(c.counts))
		then, taken := impl.StrideRun(c.crew, c.counts, n)
		want := slices.Clone(c.counts)
		for _, who := range taken {
			if who < 0 || who >= int64(len(want)) {
				t.Fatalf("StrideRun(%v, %v, %d) takes %d", c.crew, c.counts, n, who)
			}
			want[who]++
		}
		if int64(len(taken)) != n || !slices.Equal(then, want) || !impl.CountsOk(c.crew, then) {
			t.Fatalf("StrideRun(%v, %v, %d) = %v, %v", c.crew, c.counts, n, then, taken)
		}
	}
}

func TestStrideRunInTwoPartsIsOneRun(t *testing.T) {
	for k, c := range manyCounts() {
		n := int64(k%90 + 1)
		first := n * int64(k%7) / 6
		whole, taken := impl.StrideRun(c.crew, c.counts, n)
		middle, ahead := impl.StrideRun(c.crew, c.counts, first)
		end, behind := impl.StrideRun(c.crew, middle, n-first)
		if turnsOf(c.counts)+n > impl.MaxTime {
			if len(whole) != 0 || len(taken) != 0 || len(end) != 0 || len(behind) != 0 {
				t.Fatalf("StrideRun(%v, %v, %d) can't be done", c.crew, c.counts, n)
			}
			continue
		}
		if len(whole) != len(c.crew) || !slices.Equal(whole, end) || !slices.Equal(taken, slices.Concat(ahead, behind)) {
			t.Fatalf("StrideRun(%v, %v, %d) = %v, %v; parts of %d and %d: %v, %v and %v", c.crew, c.counts, n, whole, taken, first, n-first, end, ahead, behind)
		}
	}
}

func TestOfAnyTwoNeitherIsFurtherByMoreThanOneTurn(t *testing.T) {
	crews := append(manyCrews(), []int64{1, impl.MaxWeight}, []int64{impl.MaxWeight, 1, impl.MaxWeight - 1}, []int64{999983, 999979, 2})
	for _, crew := range crews {
		counts := make([]int64, len(crew))
		_, taken := impl.StrideRun(crew, counts, 150)
		if len(taken) != 150 {
			t.Fatalf("StrideRun(%v, %v, 150) takes %v", crew, counts, taken)
		}
		for _, who := range taken {
			counts[who]++
			for i := range crew {
				for j := range crew {
					// Without its last turn i has come no further than j.
					if (counts[i]-1)*crew[j] > counts[j]*crew[i] {
						t.Fatalf("of %v, counts %v: %d is further than %d by more than a turn", crew, counts, i, j)
					}
				}
			}
		}
	}
}

func TestByStrideBehindTotalTurnsEachHadItsWeight(t *testing.T) {
	crews := append(manyCrews(), []int64{20000, 1}, []int64{1, 9999, 3}, []int64{4096, 4097, 4098, 2}, []int64{impl.MaxSteps}, []int64{impl.MaxSteps - 1, 1}, []int64{1, impl.MaxSteps})
	for _, crew := range crews {
		total := impl.TotalOf(crew)
		if total > 10*impl.MaxSteps {
			continue
		}
		for cycles := int64(1); cycles <= 3; cycles++ {
			want := slices.Clone(crew)
			for i := range want {
				want[i] *= cycles
			}
			if counts := strideFor(t, crew, cycles*total); !slices.Equal(counts, want) {
				t.Fatalf("of %v: behind %d turns they had %v", crew, cycles*total, counts)
			}
		}
	}
	// As long as a cycle can be.
	for _, crew := range [][]int64{{impl.MaxTime}, {impl.MaxTime - 1, 1}, {1, 333333, 666666}, {500000, 250000, 125000, 125000}} {
		if counts := strideFor(t, crew, impl.MaxTime); !slices.Equal(counts, crew) {
			t.Fatalf("of %v: behind MaxTime turns they had %v", crew, counts)
		}
	}
}

func TestStrideLeavesCrewAndCountsAsTheyWere(t *testing.T) {
	for _, c := range append(manyCounts(), wrongCounts()...) {
		crew, counts := withRoom(c.crew), withRoom(c.counts)
		allCrew, allCounts := slices.Clone(crew[:len(crew)+3]), slices.Clone(counts[:len(counts)+3])
		impl.StrideNext(crew, counts)
		for _, n := range []int64{-1, 0, 1, 5, impl.MaxSteps + 1} {
			impl.StrideRun(crew, counts, n)
		}
		if !slices.Equal(crew[:len(crew)+3], allCrew) || !slices.Equal(counts[:len(counts)+3], allCounts) {
			t.Fatalf("were %v and %v, are %v and %v", allCrew, allCounts, crew[:len(crew)+3], counts[:len(counts)+3])
		}
	}
}

func TestStrideAnswersAreNewMemory(t *testing.T) {
	for _, c := range manyCounts() {
		for _, n := range []int64{0, 1, 4, int64(len(c.crew))} {
			want, wantTaken := impl.StrideRun(c.crew, c.counts, n)
			want, wantTaken = slices.Clone(want), slices.Clone(wantTaken)
			crew, counts := withRoom(c.crew), withRoom(c.counts)
			then, taken := impl.StrideRun(crew, counts, n)
			again, takenAgain := impl.StrideRun(crew, counts, n)
			spoil(then)
			if !slices.Equal(taken, wantTaken) || !slices.Equal(crew, c.crew) || !slices.Equal(counts, c.counts) {
				t.Fatalf("StrideRun(%v, %v, %d): a change of its counts is seen elsewhere", c.crew, c.counts, n)
			}
			spoil(taken)
			if !slices.Equal(crew, c.crew) || !slices.Equal(counts, c.counts) {
				t.Fatalf("StrideRun(%v, %v, %d): a change of who was taken is seen elsewhere", c.crew, c.counts, n)
			}
			spoil(crew)
			spoil(counts)
			if !slices.Equal(again, want) || !slices.Equal(takenAgain, wantTaken) {
				t.Fatalf("StrideRun(%v, %v, %d): a change of an argument or of another answer is seen in it", c.crew, c.counts, n)
			}
		}
	}
}

func TestStrideAnswersTheSameEachTime(t *testing.T) {
	for _, c := range manyCounts() {
		first, taken := impl.StrideRun(c.crew, c.counts, 9)
		second, takenThen := impl.StrideRun(withRoom(c.crew), withRoom(c.counts), 9)
		if !slices.Equal(first, second) || !slices.Equal(taken, takenThen) || impl.StrideNext(c.crew, c.counts) != impl.StrideNext(withRoom(c.crew), withRoom(c.counts)) {
			t.Fatal(c.crew, c.counts)
		}
	}
}
