package tests

import (
	"math"
	"slices"
	"testing"

	"loop.example/g00763/impl"
)

// crewOf has n of one weight.
func crewOf(n int, weight int64) []int64 {
	crew := make([]int64, n)
	for i := range crew {
		crew[i] = weight
	}
	return crew
}

// manyCrews is a fixed sequence, so that each run asks for the same; every size
// is there, with weights of which few, many or none are alike.
func manyCrews() [][]int64 {
	state := uint64(7)
	next := func(below uint64) int64 {
		state = state*6364136223846793005 + 1442695040888963407
		return int64(state >> 33 % below)
	}
	var list [][]int64
	for size := 1; size <= impl.MaxCrew; size++ {
		for _, kinds := range []uint64{1, 2, 3, 7, 100, impl.MaxWeight} {
			for range 8 {
				crew := make([]int64, size)
				for i := range crew {
					crew[i] = next(kinds) + 1
				}
				list = append(list, crew)
			}
		}
	}
	return list
}

// wrongCrews are not CrewOk, each one of them for one reason alone, but for the last ones.
func wrongCrews() [][]int64 {
	list := [][]int64{
		nil,
		{},
		make([]int64, 0, 5),
		crewOf(impl.MaxCrew+1, 1),
		crewOf(impl.MaxCrew+1, impl.MaxWeight),
		crewOf(2*impl.MaxCrew, 5),
		crewOf(1000, 1),
	}
	for _, w := range []int64{0, -1, -2, -impl.MaxWeight, impl.MaxWeight + 1, 2 * impl.MaxWeight, math.MinInt64, math.MinInt64 + 1, math.MaxInt64 - 1, math.MaxInt64} {
		list = append(list, []int64{w}, []int64{w, 1}, []int64{1, w}, []int64{3, w, 5})
		// In the place of each one of a full crew.
		for i := range impl.MaxCrew {
			crew := crewOf(impl.MaxCrew, 2)
			crew[i] = w
			list = append(list, crew)
		}
	}
	return append(list,
		[]int64{-1, 2},
		[]int64{math.MaxInt64, math.MaxInt64, 4},
		[]int64{math.MinInt64, math.MinInt64, 4},
		crewOf(impl.MaxCrew+1, 0),
	)
}

func checkCrew(t *testing.T, crew []int64, total int64, byWeight ...int64) {
	t.Helper()
	if !impl.CrewOk(crew) {
		t.Errorf("CrewOk(%v) = false", crew)
	}
	if got := impl.TotalOf(crew); got != total {
		t.Errorf("TotalOf(%v) = %d; want %d", crew, got, total)
	}
	if got := impl.ByWeight(crew); !slices.Equal(got, byWeight) {
		t.Errorf("ByWeight(%v) = %v; want %v", crew, got, byWeight)
	}
}

func checkNoCrew(t *testing.T, crew []int64) {
	t.Helper()
	if impl.CrewOk(crew) {
		t.Errorf("CrewOk(%v) = true", crew)
	}
	if got := impl.TotalOf(crew); got != -1 {
		t.Errorf("TotalOf(%v) = %d; want -1", crew, got)
	}
	if got := impl.ByWeight(crew); len(got) != 0 {
		t.Errorf("ByWeight(%v) = %v; want nothing", crew, got)
	}
}

func TestCrewLimitsAreAsTold(t *testing.T) {
	if impl.MaxWeight != 1000000 || impl.MaxCrew != 24 {
		t.Fatal(impl.MaxWeight, impl.MaxCrew)
	}
}

func TestCrewOrdinary(t *testing.T) {
	checkCrew(t, []int64{5}, 5, 0)
	checkCrew(t, []int64{1, 2, 3}, 6, 2, 1, 0)
	checkCrew(t, []int64{3, 2, 1}, 6, 0, 1, 2)
	checkCrew(t, []int64{2, 2}, 4, 0, 1)
	checkCrew(t, []int64{4, 7, 4, 7, 4}, 26, 1, 3, 0, 2, 4)
	checkCrew(t, []int64{7, 4, 7, 4, 7}, 29, 0, 2, 4, 1, 3)
	checkCrew(t, []int64{10, 9, 100, 11}, 130, 2, 3, 0, 1)
	checkCrew(t, []int64{1, 6, 2, 5, 3, 4}, 21, 1, 3, 5, 4, 2, 0)
}

func TestCrewAtTheLimitsOfAWeight(t *testing.T) {
	checkCrew(t, []int64{1}, 1, 0)
	checkCrew(t, []int64{impl.MaxWeight}, impl.MaxWeight, 0)
	checkCrew(t, []int64{1, impl.MaxWeight}, impl.MaxWeight+1, 1, 0)
	checkCrew(t, []int64{impl.MaxWeight - 1, impl.MaxWeight, 1, 2}, 2*impl.MaxWeight+2, 1, 0, 3, 2)
	checkNoCrew(t, []int64{0})
	checkNoCrew(t, []int64{impl.MaxWeight + 1})
	checkNoCrew(t, []int64{1, 0})
	checkNoCrew(t, []int64{impl.MaxWeight + 1, impl.MaxWeight})
}

func TestCrewAtTheLimitsOfItsSize(t *testing.T) {
	var rising, falling, inOrder, backward []int64
	for i := range int64(impl.MaxCrew) {
		rising = append(rising, i+1)
		falling = append(falling, impl.MaxCrew-i)
		inOrder = append(inOrder, i)
		backward = append(backward, impl.MaxCrew-1-i)
	}
	checkCrew(t, rising, 300, backward...)
	checkCrew(t, falling, 300, inOrder...)
	checkCrew(t, crewOf(impl.MaxCrew, 1), impl.MaxCrew, inOrder...)
	checkCrew(t, crewOf(impl.MaxCrew, impl.MaxWeight), impl.MaxCrew*impl.MaxWeight, inOrder...)
	checkCrew(t, crewOf(impl.MaxCrew-1, 3), 3*(impl.MaxCrew-1), inOrder[:impl.MaxCrew-1]...)
	checkNoCrew(t, nil)
	checkNoCrew(t, []int64{})
	checkNoCrew(t, append(rising, 1))
	checkNoCrew(t, crewOf(impl.MaxCrew+1, 1))
}

func TestWrongCrews(t *testing.T) {
	for _, crew := range wrongCrews() {
		checkNoCrew(t, crew)
	}
}

func TestByWeightHasEachOnceTheHeavierFirst(t *testing.T) {
	for _, crew := range manyCrews() {
		list := impl.ByWeight(crew)
		times := make([]int, len(crew))
		for _, i := range list {
			if i < 0 || i >= int64(len(crew)) {
				t.Fatalf("ByWeight(%v) = %v: there is no %d", crew, list, i)
			}
			times[i]++
		}
		for i, n := range times {
			if n != 1 {
				t.Fatalf("ByWeight(%v) = %v has %d so often: %d", crew, list, i, n)
			}
		}
		for k := 1; k < len(list); k++ {
			a, b := list[k-1], list[k]
			if crew[a] < crew[b] || crew[a] == crew[b] && a > b {
				t.Fatalf("ByWeight(%v) = %v: %d ahead of %d", crew, list, a, b)
			}
		}
	}
}

func TestTotalOfIsAllWeights(t *testing.T) {
	for _, crew := range manyCrews() {
		total := int64(0)
		for _, weight := range crew {
			total += weight
		}
		if got := impl.TotalOf(crew); !impl.CrewOk(crew) || got != total {
			t.Fatalf("TotalOf(%v) = %d; want %d", crew, got, total)
		}
	}
}

// withRoom is the same list with room behind it that must stay as it is.
func withRoom(list []int64) []int64 {
	return append(slices.Clone(list), 77, -77, 777)[:len(list)]
}

func TestCrewStaysAsItWas(t *testing.T) {
	for _, crew := range append(manyCrews(), wrongCrews()...) {
		given := withRoom(crew)
		all := slices.Clone(given[:len(given)+3])
		impl.CrewOk(given)
		impl.TotalOf(given)
		impl.ByWeight(given)
		if !slices.Equal(given[:len(given)+3], all) {
			t.Fatalf("was %v, is %v", all, given[:len(given)+3])
		}
	}
}

func TestByWeightIsNewMemory(t *testing.T) {
	for _, crew := range manyCrews() {
		given := withRoom(crew)
		first := impl.ByWeight(given)
		want := slices.Clone(first)
		second := impl.ByWeight(given)
		for i := range first[:cap(first)] {
			first[:cap(first)][i] = -5
		}
		if !slices.Equal(given, crew) || !slices.Equal(second, want) {
			t.Fatalf("of %v: a change in one answer is seen elsewhere", crew)
		}
		for i := range given {
			given[i] = 1
		}
		if !slices.Equal(second, want) {
			t.Fatalf("of %v: a change of the crew is seen in the answer", crew)
		}
	}
}

func TestCrewAnswersTheSameEachTime(t *testing.T) {
	for _, crew := range manyCrews() {
		if !slices.Equal(impl.ByWeight(crew), impl.ByWeight(withRoom(crew))) {
			t.Fatal(crew)
		}
	}
}
