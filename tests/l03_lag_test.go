package tests

import (
	"math"
	"slices"
	"testing"

	"loop.example/g00763/impl"
)

// counted is a crew with counts of it.
type counted struct {
	crew   []int64
	counts []int64
}

// manyCounts has for each of many crews counts that are right: none yet, one
// who had all, and a fixed sequence of others, with few turns and with as many
// as there may be.
func manyCounts() []counted {
	state := uint64(11)
	next := func(below int64) int64 {
		state = state*6364136223846793005 + 1442695040888963407
		return int64(state>>33) % below
	}
	var list []counted
	for _, crew := range manyCrews() {
		size := int64(len(crew))
		first, last := make([]int64, size), make([]int64, size)
		first[0], last[size-1] = impl.MaxTime, impl.MaxTime
		list = append(list, counted{crew, make([]int64, size)}, counted{crew, first}, counted{crew, last})
		for _, below := range []int64{2, 5, 1000, impl.MaxTime/size + 1} {
			counts := make([]int64, size)
			for i := range counts {
				counts[i] = next(below)
			}
			list = append(list, counted{crew, counts})
		}
		full := crewOf(len(crew), impl.MaxTime/size)
		full[next(size)] += impl.MaxTime % size
		list = append(list, counted{crew, full})
	}
	return list
}

// wrongCounts are not CountsOk: the crew is none, there are fewer or more
// counts than weights, one is out of range, or all together are too many.
func wrongCounts() []counted {
	var list []counted
	for _, crew := range wrongCrews() {
		list = append(list, counted{crew, make([]int64, len(crew))}, counted{crew, []int64{1}}, counted{crew, nil})
	}
	for size := 1; size <= impl.MaxCrew; size++ {
		crew := crewOf(size, 3)
		list = append(list,
			counted{crew, nil},
			counted{crew, crewOf(size-1, 1)},
			counted{crew, crewOf(size+1, 1)},
			counted{crew, crewOf(size+1, 0)},
			counted{crew, crewOf(size+1, 1)[:size-1]},
			counted{crew, crewOf(2*size, 1)},
		)
		for i := range size {
			for _, count := range []int64{-1, -2, -impl.MaxTime, impl.MaxTime + 1, 2 * impl.MaxTime, math.MinInt64, math.MinInt64 + 1, math.MaxInt64 - 1, math.MaxInt64} {
				counts := make([]int64, size)
				counts[i] = count
				list = append(list, counted{crew, counts})
			}
		}
		if size > 1 {
			tooMany := crewOf(size, impl.MaxTime/int64(size))
			tooMany[size-1] += impl.MaxTime%int64(size) + 1
			list = append(list, counted{crew, tooMany}, counted{crew, crewOf(size, impl.MaxTime)})
		}
	}
	return append(list,
		counted{[]int64{1, 3}, []int64{impl.MaxTime, 1}},
		counted{[]int64{1, 3}, []int64{1, impl.MaxTime}},
		counted{[]int64{1, 3}, []int64{-1, 1}},
		counted{[]int64{1, 3}, []int64{impl.MaxTime + 1, -1}},
		counted{[]int64{1, 3}, []int64{math.MaxInt64, math.MinInt64}},
		counted{[]int64{1, 3}, []int64{math.MinInt64, math.MinInt64}},
		counted{[]int64{1, 3, 2}, []int64{math.MaxInt64, math.MaxInt64, 4}},
		counted{crewOf(impl.MaxCrew+1, 1), make([]int64, impl.MaxCrew+1)},
	)
}

// wrongPlaces are numbers that nobody in a crew of this size has.
func wrongPlaces(size int) []int64 {
	n := int64(size)
	return []int64{-1, -2, -n, -n - 1, n, n + 1, 2*n + 1, impl.MaxCrew, impl.MaxCrew + 1, 1 << 32, -1 << 32, math.MinInt64, math.MaxInt64}
}

func checkLags(t *testing.T, crew []int64, counts []int64, turns int64, lags ...int64) {
	t.Helper()
	if !impl.CountsOk(crew, counts) {
		t.Errorf("CountsOk(%v, %v) = false", crew, counts)
	}
	if got := impl.TurnsOf(crew, counts); got != turns {
		t.Errorf("TurnsOf(%v, %v) = %d; want %d", crew, counts, got, turns)
	}
	least, greatest := lags[0], lags[0]
	for i, want := range lags {
		if got, is := impl.LagOf(crew, counts, int64(i)); !is || got != want {
			t.Errorf("LagOf(%v, %v, %d) = %d, %v; want %d, true", crew, counts, i, got, is, want)
		}
		least, greatest = min(least, want), max(greatest, want)
	}
	if a, b := impl.WorstLag(crew, counts); a != least || b != greatest {
		t.Errorf("WorstLag(%v, %v) = %d, %d; want %d, %d", crew, counts, a, b, least, greatest)
	}
	for _, i := range wrongPlaces(len(crew)) {
		if got, is := impl.LagOf(crew, counts, i); is || got != 0 {
			t.Errorf("LagOf(%v, %v, %d) = %d, %v; want 0, false", crew, counts, i, got, is)
		}
	}
}

func checkNoLags(t *testing.T, crew []int64, counts []int64) {
	t.Helper()
	if impl.CountsOk(crew, counts) {
		t.Errorf("CountsOk(%v, %v) = true", crew, counts)
	}
	if got := impl.TurnsOf(crew, counts); got != -1 {
		t.Errorf("TurnsOf(%v, %v) = %d; want -1", crew, counts, got)
	}
	if a, b := impl.WorstLag(crew, counts); a != 0 || b != 0 {
		t.Errorf("WorstLag(%v, %v) = %d, %d; want 0, 0", crew, counts, a, b)
	}
	places := append(wrongPlaces(len(crew)), wrongPlaces(len(counts))...)
	for i := range max(len(crew), len(counts)) {
		places = append(places, int64(i))
	}
	for _, i := range places {
		if got, is := impl.LagOf(crew, counts, i); is || got != 0 {
			t.Errorf("LagOf(%v, %v, %d) = %d, %v; want 0, false", crew, counts, i, got, is)
		}
	}
}

func TestLagLimitIsAsTold(t *testing.T) {
	if impl.MaxTime != 1000000 {
		t.Fatal(impl.MaxTime)
	}
}

func TestLagsOrdinary(t *testing.T) {
	checkLags(t, []int64{1, 3}, []int64{0, 0}, 0, 0, 0)
	checkLags(t, []int64{1, 3}, []int64{0, 1}, 1, 1, -1)
	checkLags(t, []int64{1, 3}, []int64{1, 0}, 1, -3, 3)
	checkLags(t, []int64{1, 3}, []int64{1, 3}, 4, 0, 0)
	checkLags(t, []int64{1, 3}, []int64{3, 1}, 4, -8, 8)
	checkLags(t, []int64{5, 1, 1}, []int64{2, 1, 0}, 3, 1, -4, 3)
	checkLags(t, []int64{2, 3, 5}, []int64{1, 1, 1}, 3, -4, -1, 5)
	checkLags(t, []int64{2, 3, 5}, []int64{2, 3, 5}, 10, 0, 0, 0)
	checkLags(t, []int64{2, 3, 5}, []int64{4, 6, 11}, 21, 2, 3, -5)
	checkLags(t, []int64{7, 7, 7, 7}, []int64{3, 0, 2, 1}, 6, -42, 42, -14, 14)
}

func TestLagsAtTheLimitsOfTheCounts(t *testing.T) {
	checkLags(t, []int64{4}, []int64{0}, 0, 0)
	checkLags(t, []int64{4}, []int64{impl.MaxTime}, impl.MaxTime, 0)
	checkNoLags(t, []int64{4}, []int64{impl.MaxTime + 1})
	checkNoLags(t, []int64{4}, []int64{-1})

	checkLags(t, []int64{1, 3}, []int64{impl.MaxTime, 0}, impl.MaxTime, -3*impl.MaxTime, 3*impl.MaxTime)
	checkLags(t, []int64{1, 3}, []int64{0, impl.MaxTime}, impl.MaxTime, impl.MaxTime, -impl.MaxTime)
	checkNoLags(t, []int64{1, 3}, []int64{impl.MaxTime + 1, 0})
	checkNoLags(t, []int64{1, 3}, []int64{0, impl.MaxTime + 1})
	checkNoLags(t, []int64{1, 3}, []int64{-1, 0})
	checkNoLags(t, []int64{1, 3}, []int64{0, -1})
}

func TestLagsAtTheLimitOfAllCountsTogether(t *testing.T) {
	checkLags(t, []int64{1, 3}, []int64{250000, 750000}, impl.MaxTime, 0, 0)
	checkLags(t, []int64{1, 3}, []int64{impl.MaxTime - 1, 1}, impl.MaxTime, 4-3*impl.MaxTime, 3*impl.MaxTime-4)
	checkLags(t, []int64{1, 3}, []int64{250000, 749999}, impl.MaxTime-1, -1, 1)
	checkNoLags(t, []int64{1, 3}, []int64{250000, 750001})
	checkNoLags(t, []int64{1, 3}, []int64{impl.MaxTime - 1, 2})
	checkNoLags(t, []int64{1, 3}, []int64{impl.MaxTime, 1})
	checkNoLags(t, []int64{1, 3}, []int64{1, impl.MaxTime})
	checkNoLags(t, []int64{1, 3}, []int64{impl.MaxTime, impl.MaxTime})
}

func TestLagsAtTheLimitsOfTheCrew(t *testing.T) {
	checkLags(t, []int64{1}, []int64{7}, 7, 0)
	checkLags(t, []int64{impl.MaxWeight}, []int64{impl.MaxTime}, impl.MaxTime, 0)
	checkNoLags(t, []int64{impl.MaxWeight + 1}, []int64{7})
	checkNoLags(t, []int64{0}, []int64{7})

	// One of a full crew of the heaviest had all there can be.
	const all = impl.MaxWeight * impl.MaxTime
	for had := range impl.MaxCrew {
		counts, lags := make([]int64, impl.MaxCrew), crewOf(impl.MaxCrew, all)
		counts[had] = impl.MaxTime
		lags[had] = -(impl.MaxCrew - 1) * all
		checkLags(t, crewOf(impl.MaxCrew, impl.MaxWeight), counts, impl.MaxTime, lags...)
	}
	checkLags(t, []int64{1, impl.MaxWeight}, []int64{impl.MaxTime, 0}, impl.MaxTime, -all, all)
	checkLags(t, []int64{1, impl.MaxWeight}, []int64{0, impl.MaxTime}, impl.MaxTime, impl.MaxTime, -impl.MaxTime)

	checkLags(t, crewOf(impl.MaxCrew, 1), crewOf(impl.MaxCrew, 1), impl.MaxCrew, make([]int64, impl.MaxCrew)...)
	checkNoLags(t, crewOf(impl.MaxCrew+1, 1), crewOf(impl.MaxCrew+1, 1))
	checkNoLags(t, crewOf(impl.MaxCrew+1, 1), crewOf(impl.MaxCrew, 1))
	checkNoLags(t, crewOf(impl.MaxCrew, 1), crewOf(impl.MaxCrew+1, 1))
}

func TestWrongCounts(t *testing.T) {
	checkNoLags(t, nil, nil)
	checkNoLags(t, nil, []int64{1})
	checkNoLags(t, []int64{1}, nil)
	checkNoLags(t, []int64{}, []int64{})
	for _, c := range wrongCounts() {
		checkNoLags(t, c.crew, c.counts)
	}
}

func TestLagsAreByTheirWords(t *testing.T) {
	for _, c := range manyCounts() {
		total, turns := int64(0), int64(0)
		for i, weight := range c.crew {
			total += weight
			turns += c.counts[i]
		}
		lags := make([]int64, len(c.crew))
		for i, weight := range c.crew {
			lags[i] = weight*turns - total*c.counts[i]
		}
		checkLags(t, c.crew, c.counts, turns, lags...)
	}
}

func TestAllLagsTogetherAreNone(t *testing.T) {
	for _, c := range manyCounts() {
		together := int64(0)
		for i := range c.crew {
			lag, is := impl.LagOf(c.crew, c.counts, int64(i))
			if !is {
				t.Fatalf("LagOf(%v, %v, %d) is not answered", c.crew, c.counts, i)
			}
			together += lag
		}
		if least, greatest := impl.WorstLag(c.crew, c.counts); together != 0 || least > 0 || greatest < 0 {
			t.Fatalf("all lags of %v, %v: together %d, from %d to %d", c.crew, c.counts, together, least, greatest)
		}
	}
}

func TestLagsAreNoneWhereEachHadItsWeight(t *testing.T) {
	for _, crew := range manyCrews() {
		if total := impl.TotalOf(crew); total <= impl.MaxTime {
			checkLags(t, crew, crew, total, make([]int64, len(crew))...)
		} else {
			checkNoLags(t, crew, crew)
		}
	}
}

func TestCrewAndCountsStayAsTheyWere(t *testing.T) {
	for _, c := range append(manyCounts(), wrongCounts()...) {
		crew, counts := withRoom(c.crew), withRoom(c.counts)
		allCrew, allCounts := slices.Clone(crew[:len(crew)+3]), slices.Clone(counts[:len(counts)+3])
		impl.CountsOk(crew, counts)
		impl.TurnsOf(crew, counts)
		impl.LagOf(crew, counts, 0)
		impl.LagOf(crew, counts, int64(len(crew)))
		impl.WorstLag(crew, counts)
		if !slices.Equal(crew[:len(crew)+3], allCrew) || !slices.Equal(counts[:len(counts)+3], allCounts) {
			t.Fatalf("were %v and %v, are %v and %v", allCrew, allCounts, crew[:len(crew)+3], counts[:len(counts)+3])
		}
	}
}
