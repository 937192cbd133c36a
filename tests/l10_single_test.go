package tests

import (
	"math"
	"slices"
	"testing"

	"loop.example/g00763/impl"
)

// checkDue asks who is due first: alone, and as a run of one turn where there is room for it.
func checkDue(t *testing.T, crew []int64, counts []int64, first int64) {
	t.Helper()
	if got := impl.SingleNext(crew, counts); got != first {
		t.Errorf("SingleNext(%v, %v) = %d; want %d", crew, counts, got, first)
	}
	then := slices.Clone(counts)
	then[first]++
	if impl.CountsOk(crew, then) {
		checkSingle(t, crew, counts, 1, then, first)
	} else {
		checkNoSingle(t, crew, counts, 1)
	}
}

func checkSingle(t *testing.T, crew []int64, counts []int64, n int64, then []int64, taken ...int64) {
	t.Helper()
	if got, who := impl.SingleRun(crew, counts, n); !slices.Equal(got, then) || !slices.Equal(who, taken) {
		t.Errorf("SingleRun(%v, %v, %d) = %v, %v; want %v, %v", crew, counts, n, got, who, then, taken)
	}
}

func checkNoSingle(t *testing.T, crew []int64, counts []int64, n int64) {
	t.Helper()
	if got, who := impl.SingleRun(crew, counts, n); len(got) != 0 || len(who) != 0 {
		t.Errorf("SingleRun(%v, %v, %d) = %v, %v; want nothing and nothing", crew, counts, n, got, who)
	}
}

// checkNobodyIsDue is for what are no counts of a crew.
func checkNobodyIsDue(t *testing.T, crew []int64, counts []int64) {
	t.Helper()
	if got := impl.SingleNext(crew, counts); got != -1 {
		t.Errorf("SingleNext(%v, %v) = %d; want -1", crew, counts, got)
	}
	for _, n := range append(wrongSteps(), 0, 1, 2, impl.MaxSteps) {
		checkNoSingle(t, crew, counts, n)
	}
}

// wantTurn is the next turn of one by the document's words: when it is ready, and when it is due.
// What the products are at most, int64 has room for.
func wantTurn(crew []int64, counts []int64, i int) (int64, int64) {
	total := turnsOf(crew)
	return counts[i] * total / crew[i], ((counts[i]+1)*total + crew[i] - 1) / crew[i]
}

// wantDue leaves out who is not ready, and of the others nobody is due earlier than the
// one it tells, nor at once with it and ahead of it in the list.
func wantDue(crew []int64, counts []int64) int64 {
	first, earliest := int64(-1), int64(math.MaxInt64)
	for i := range crew {
		ready, due := wantTurn(crew, counts, i)
		if counts[i] < impl.MaxTime && ready <= turnsOf(counts) && due < earliest {
			first, earliest = int64(i), due
		}
	}
	return first
}

// wantSingle is a run that can be done, turn by turn.
func wantSingle(t *testing.T, crew []int64, counts []int64, n int64) ([]int64, []int64) {
	t.Helper()
	then, taken := slices.Clone(counts), []int64{}
	for range n {
		first := wantDue(crew, then)
		if first < 0 {
			t.Fatalf("of %v nobody is ready behind %v", crew, then)
		}
		then[first]++
		taken = append(taken, first)
	}
	return then, taken
}

// checkNeverAWholeTurn runs from no counts for so many turns, and holds behind each one of
// them that nobody is a whole turn ahead or behind. It answers what each one had.
func checkNeverAWholeTurn(t *testing.T, crew []int64, turns int64) []int64 {
	t.Helper()
	counts, total := make([]int64, len(crew)), impl.TotalOf(crew)
	for left := turns; left > 0; left -= impl.MaxSteps {
		n := min(left, impl.MaxSteps)
		then, taken := impl.SingleRun(crew, counts, n)
		if int64(len(taken)) != n {
			t.Fatalf("SingleRun(%v, %v, %d) = %v, %v", crew, counts, n, then, taken)
		}
		for _, who := range taken {
			counts[who]++
			for i := range crew {
				if lag, ok := impl.LagOf(crew, counts, int64(i)); !ok || lag <= -total || lag >= total {
					t.Fatalf("of %v, counts %v: the lag of %d is %d, %v, of %d", crew, counts, i, lag, ok, total)
				}
			}
		}
		if !slices.Equal(counts, then) {
			t.Fatalf("of %v: the counts are %v; who was taken makes %v", crew, then, counts)
		}
	}
	return counts
}

func TestSingleOrdinary(t *testing.T) {
	crew := []int64{2, 1}
	checkSingle(t, crew, []int64{0, 0}, 6, []int64{4, 2}, 0, 0, 1, 0, 0, 1)
	checkDue(t, crew, []int64{0, 0}, 0) // due at 2 and at 3
	checkDue(t, crew, []int64{1, 0}, 0) // at 3 both
	checkDue(t, crew, []int64{2, 0}, 1)
	checkDue(t, crew, []int64{2, 1}, 0)
	checkDue(t, crew, []int64{0, 9}, 0)
	checkDue(t, crew, []int64{9, 0}, 1)

	crew = []int64{1, 2, 3}
	checkSingle(t, crew, []int64{0, 0, 0}, 6, []int64{1, 2, 3}, 2, 1, 2, 0, 1, 2)
	checkSingle(t, crew, []int64{1, 2, 3}, 3, []int64{1, 3, 5}, 2, 1, 2)
	checkSingle(t, crew, []int64{3, 0, 1}, 5, []int64{3, 2, 4}, 1, 2, 1, 2, 2)

	// The heavy one is ready at 0, 1, 2, 4, 5 and due at 2, 3, 5, 6, 7, as the others are at last.
	checkSingle(t, []int64{5, 1, 1}, []int64{0, 0, 0}, 7, []int64{5, 1, 1}, 0, 0, 0, 1, 0, 0, 2)
	checkSingle(t, []int64{1, 1, 5}, []int64{0, 0, 0}, 7, []int64{1, 1, 5}, 2, 2, 2, 0, 2, 1, 2)

	// One alone has every turn, whatever it weighs.
	checkSingle(t, []int64{5}, []int64{12}, 4, []int64{16}, 0, 0, 0, 0)
	// What counts is when it is due, not how far it has come, nor how much it weighs.
	checkDue(t, []int64{1, 4, 1}, []int64{1, 2, 0}, 1) // due at 12, 5 and 6; the last one had nothing
	checkDue(t, []int64{1, 4, 1}, []int64{0, 3, 1}, 0) // at 6, 6 and 12; the heaviest one is ready at 4
}

func TestSingleWhatIsNotReadyIsPassedOver(t *testing.T) {
	// All weights are 8: the last one is ready at 0, 2, 4, 6 and due at 2, 4, 6, 8, the others at 8.
	crew := []int64{1, 1, 1, 1, 4}
	checkDue(t, crew, []int64{0, 0, 0, 0, 0}, 4) // ready just at 0
	checkDue(t, crew, []int64{0, 0, 0, 0, 1}, 0) // ready at 2, just behind 1
	checkDue(t, crew, []int64{1, 0, 0, 0, 1}, 4) // just at 2
	checkDue(t, crew, []int64{0, 0, 0, 0, 2}, 0) // ready at 4, far behind 2
	checkDue(t, crew, []int64{1, 0, 0, 0, 2}, 1) // just behind 3
	checkDue(t, crew, []int64{1, 1, 0, 0, 2}, 4) // just at 4
	checkDue(t, crew, []int64{1, 1, 1, 0, 2}, 4)
	checkDue(t, crew, []int64{1, 1, 0, 0, 3}, 2) // ready at 6, just behind 5; due at 8 as those are
	checkDue(t, crew, []int64{1, 1, 1, 0, 3}, 3) // just at 6
	checkSingle(t, crew, make([]int64, 5), 8, []int64{1, 1, 1, 1, 4}, 4, 0, 4, 1, 4, 2, 3, 4)

	// The same from the head of the crew.
	crew = []int64{4, 1, 1, 1, 1}
	checkDue(t, crew, []int64{1, 0, 0, 0, 0}, 1)
	checkDue(t, crew, []int64{1, 1, 0, 0, 0}, 0)
	checkDue(t, crew, []int64{2, 0, 1, 0, 0}, 1)
	checkDue(t, crew, []int64{3, 1, 1, 0, 0}, 3)
	checkDue(t, crew, []int64{3, 1, 1, 1, 0}, 0)

	// When it is ready is rounded down: by 7 of 3 at 2.
	crew = []int64{3, 1, 1, 1, 1}
	checkDue(t, crew, []int64{1, 0, 0, 0, 0}, 1)
	checkDue(t, crew, []int64{1, 1, 0, 0, 0}, 0) // due at 5, the others at 7

	// By 75 of 8 at 9, and by 25000 of 80 at 312, due at 13 and at 316; the last one is due at 25 and at 325.
	checkDue(t, []int64{8, 8, 8, 1}, []int64{3, 3, 3, 0}, 0)
	checkDue(t, []int64{80, 80, 80, 10}, []int64{100, 100, 100, 12}, 0)
	checkDue(t, []int64{80, 80, 80, 10}, []int64{101, 100, 100, 12}, 1)

	// Two are ready at 0, 2, 5, 7 and due at 3, 5, 8, 10, the others at 10.
	crew = []int64{4, 4, 1, 1}
	checkDue(t, crew, []int64{2, 2, 0, 0}, 2) // both are ready just behind 4
	checkDue(t, crew, []int64{2, 2, 1, 0}, 0)
	checkDue(t, crew, []int64{3, 2, 0, 0}, 1)
	checkDue(t, crew, []int64{3, 3, 0, 0}, 2)
	checkDue(t, crew, []int64{3, 3, 1, 0}, 0)
}

// halfAt has one of half of all weights at that place, which had that many turns; as many
// of the others, the first ones, had one.
func halfAt(size int, place int, had int64, others int) counted {
	c := counted{crewOf(size, 1), make([]int64, size)}
	c.crew[place], c.counts[place] = int64(size-1), had
	for i := range c.crew {
		if i != place && others > 0 {
			c.counts[i] = 1
			others--
		}
	}
	return c
}

func TestSingleNotReadyAtEveryPlace(t *testing.T) {
	for size := 4; size <= impl.MaxCrew; size++ {
		for place := range size {
			// Its turns are ready at 0, 2, 4 and on, so it had half of them where it is ready just now.
			for others := 0; others < size-2; others++ {
				now := halfAt(size, place, int64(others), others)
				checkDue(t, now.crew, now.counts, int64(place))
				next := int64(others)
				if others >= place {
					next++
				}
				soon := halfAt(size, place, int64(others)+1, others)
				checkDue(t, soon.crew, soon.counts, next)
			}
		}
	}
}

func TestSingleNobodyIsReady(t *testing.T) {
	// Somebody has not more than its share, and so is ready, but where one alone had all turns there are.
	const most = impl.MaxTime
	for _, weight := range []int64{1, 2, 7, impl.MaxWeight - 1, impl.MaxWeight} {
		crew := []int64{weight}
		if got := impl.SingleNext(crew, []int64{most}); got != -1 {
			t.Errorf("SingleNext(%v, [MaxTime]) = %d; want -1", crew, got)
		}
		checkDue(t, crew, []int64{most - 1}, 0)
		// A run of no turn asks for nobody.
		checkSingle(t, crew, []int64{most}, 0, []int64{most})
		for _, n := range []int64{1, 2, impl.MaxSteps, impl.MaxSteps + 1, -1} {
			checkNoSingle(t, crew, []int64{most}, n)
		}
		for _, room := range []int64{1, 2, 17, impl.MaxSteps - 1} {
			checkSingle(t, crew, []int64{most - room}, room, []int64{most}, crewOf(int(room), 0)...)
			checkNoSingle(t, crew, []int64{most - room}, room+1)
			checkNoSingle(t, crew, []int64{most - room}, impl.MaxSteps)
		}
	}
	for _, c := range manyCounts() {
		if len(c.crew) > 1 && impl.SingleNext(c.crew, c.counts) < 0 {
			t.Fatalf("SingleNext(%v, %v) is nobody", c.crew, c.counts)
		}
	}
}

func TestSingleTiesByHand(t *testing.T) {
	// All weights alike, all at the beginning.
	checkDue(t, []int64{4, 4, 4}, []int64{0, 0, 0}, 0)
	checkSingle(t, []int64{2, 2, 2, 2}, []int64{0, 0, 0, 0}, 9, []int64{3, 2, 2, 2}, 0, 1, 2, 3, 0, 1, 2, 3, 0)
	// Of those that had nothing: at the start, in the middle, at the end.
	checkDue(t, []int64{1, 1, 1, 1}, []int64{0, 0, 1, 1}, 0)
	checkDue(t, []int64{1, 1, 1, 1}, []int64{1, 0, 0, 1}, 1)
	checkDue(t, []int64{1, 1, 1, 1}, []int64{1, 1, 0, 0}, 2)
	checkDue(t, []int64{1, 1, 1, 1}, []int64{0, 1, 1, 0}, 0)

	// Unlike weights, all due at 6 of 12; the heaviest one is ready at 4, and turns is 3.
	checkDue(t, []int64{2, 4, 6}, []int64{0, 1, 2}, 0)
	checkDue(t, []int64{4, 6, 2}, []int64{1, 2, 0}, 0)
	checkDue(t, []int64{6, 4, 2}, []int64{2, 1, 0}, 1)
	// When it is due is rounded up: due at 3 both, by 13 of 6 and by 13 of 5.
	checkDue(t, []int64{1, 6, 5, 1}, []int64{0, 0, 0, 0}, 1)
	checkDue(t, []int64{1, 5, 6, 1}, []int64{0, 0, 0, 0}, 1)
	checkDue(t, []int64{5, 1, 1, 6}, []int64{0, 0, 0, 0}, 0)
	checkDue(t, []int64{6, 1, 1, 5}, []int64{0, 0, 0, 0}, 0)
	checkSingle(t, []int64{1, 5, 6, 1}, []int64{0, 0, 0, 0}, 2, []int64{0, 1, 1, 0}, 1, 2)

	// The first one of those that are due at once is not ready: all at 4, the heavy one is ready at 2.
	checkDue(t, []int64{4, 2, 2}, []int64{1, 0, 0}, 1)
	checkDue(t, []int64{2, 4, 2}, []int64{0, 1, 0}, 0)
	checkDue(t, []int64{2, 4, 2}, []int64{1, 1, 0}, 1) // turns is 2 by now
	checkDue(t, []int64{4, 2, 2}, []int64{1, 1, 0}, 0)
	checkDue(t, []int64{2, 2, 4}, []int64{1, 0, 1}, 1)
	// The first two are not ready, but at 3; all are due at 6.
	checkDue(t, []int64{4, 4, 2, 2}, []int64{1, 1, 0, 0}, 2)
	checkDue(t, []int64{4, 4, 2, 2}, []int64{1, 1, 1, 0}, 0)
}

func TestSingleTiesAtEveryPlace(t *testing.T) {
	for size := 2; size <= impl.MaxCrew; size++ {
		for i := range size {
			for j := i + 1; j < size; j++ {
				for k := j; k < size; k++ {
					// All others had their turn of this cycle.
					counts := crewOf(size, 5)
					counts[i], counts[j], counts[k] = 4, 4, 4
					crew := crewOf(size, int64(size%3+1))
					if got := impl.SingleNext(crew, counts); got != int64(i) {
						t.Fatalf("SingleNext(%v, %v) = %d; want %d", crew, counts, got, i)
					}
					want := slices.Compact([]int64{int64(i), int64(j), int64(k)})
					if _, who := impl.SingleRun(crew, counts, int64(len(want))); !slices.Equal(who, want) {
						t.Fatalf("SingleRun(%v, %v) takes %v; want %v", crew, counts, who, want)
					}
				}
			}
		}
	}
}

func TestSingleTiesOfUnlikeOnesAtEveryPlace(t *testing.T) {
	// The heavy one is due at once with all others, at its last turn of the cycle, and ready behind all but one of them.
	for size := 3; size <= impl.MaxCrew; size++ {
		for place := range size {
			had := int64(size - 2)
			for others := range size - 1 {
				c := halfAt(size, place, had, others)
				want := int64(others)
				if others >= place {
					want++
				}
				// Ready at twice what it had, and ahead of that one in the list.
				if others == size-2 && int64(place) < want {
					want = int64(place)
				}
				checkDue(t, c.crew, c.counts, want)
			}
		}
	}
}

func TestSingleAtTheLimitsOfTheCrew(t *testing.T) {
	for _, weight := range []int64{1, 2, impl.MaxWeight} {
		checkSingle(t, []int64{weight}, []int64{0}, 3, []int64{3}, 0, 0, 0)
		checkDue(t, []int64{weight}, []int64{0}, 0)
		crew := crewOf(impl.MaxCrew, weight)
		for first := range impl.MaxCrew {
			counts := crewOf(impl.MaxCrew, 5)
			counts[first] = 4
			checkDue(t, crew, counts, int64(first))
		}
		checkNobodyIsDue(t, crewOf(impl.MaxCrew+1, weight), make([]int64, impl.MaxCrew+1))
		checkNobodyIsDue(t, crewOf(impl.MaxCrew+1, weight), make([]int64, impl.MaxCrew))
		checkNobodyIsDue(t, crewOf(impl.MaxCrew, weight), make([]int64, impl.MaxCrew+1))
	}
	// The lightest one and the heaviest one there is: due at 1000001, at once with the millionth turn of the other one.
	checkSingle(t, []int64{1, impl.MaxWeight}, []int64{0, 0}, 5, []int64{0, 5}, 1, 1, 1, 1, 1)
	checkSingle(t, []int64{impl.MaxWeight, 1}, []int64{0, 0}, 5, []int64{5, 0}, 0, 0, 0, 0, 0)
	checkDue(t, []int64{1, impl.MaxWeight}, []int64{0, impl.MaxTime - 2}, 1)
	checkDue(t, []int64{1, impl.MaxWeight}, []int64{0, impl.MaxTime - 1}, 0)
	checkDue(t, []int64{impl.MaxWeight, 1}, []int64{impl.MaxTime - 1, 0}, 0)
	checkDue(t, []int64{1, impl.MaxWeight}, []int64{1, impl.MaxTime - 2}, 1)
	// One light one among the heaviest ones there are.
	for light := range impl.MaxCrew {
		crew := crewOf(impl.MaxCrew, impl.MaxWeight)
		crew[light] = 1
		counts := crewOf(impl.MaxCrew, 1)
		counts[light] = 0
		then, taken := wantSingle(t, crew, counts, 50)
		checkSingle(t, crew, counts, 50, then, taken...)
	}
	checkNobodyIsDue(t, nil, nil)
	checkNobodyIsDue(t, []int64{}, []int64{})
	checkNobodyIsDue(t, nil, []int64{0})
	checkNobodyIsDue(t, []int64{0}, []int64{0})
	checkNobodyIsDue(t, []int64{impl.MaxWeight + 1}, []int64{0})
	checkNobodyIsDue(t, []int64{3, impl.MaxWeight + 1}, []int64{0, 0})
	checkNobodyIsDue(t, []int64{0, 3}, []int64{0, 0})
}

func TestSingleAtTheLimitsOfTheCounts(t *testing.T) {
	const most = impl.MaxTime
	// One alone had all: it has no next turn, the others do, but no turn is left to take it.
	checkDue(t, []int64{4, 9}, []int64{most, 0}, 1)
	checkDue(t, []int64{4, 9}, []int64{0, most}, 0)
	checkDue(t, []int64{impl.MaxWeight, 1}, []int64{most, 0}, 1)
	checkDue(t, []int64{1, impl.MaxWeight}, []int64{0, most}, 0)
	for had := range impl.MaxCrew {
		counts := make([]int64, impl.MaxCrew)
		counts[had] = most
		first := int64(0)
		if had == 0 {
			first = 1
		}
		checkDue(t, crewOf(impl.MaxCrew, impl.MaxWeight), counts, first)
		checkDue(t, crewOf(impl.MaxCrew, 1), counts, first)
		counts[had]--
		checkDue(t, crewOf(impl.MaxCrew, 1), counts, first)
	}
	// All had so much together: due at 1000004 and at 1000002 first.
	checkDue(t, []int64{1, 3}, []int64{250000, 750000}, 1)
	checkDue(t, []int64{1, 3}, []int64{250001, 749999}, 1)
	checkDue(t, []int64{1, 3}, []int64{249999, 750001}, 0)
	checkDue(t, []int64{1, 3}, []int64{most - 1, 1}, 1)
	// One past it, alone and together.
	checkNobodyIsDue(t, []int64{4}, []int64{most + 1})
	checkNobodyIsDue(t, []int64{4, 9}, []int64{most + 1, 0})
	checkNobodyIsDue(t, []int64{4, 9}, []int64{0, most + 1})
	checkNobodyIsDue(t, []int64{4, 9}, []int64{most, 1})
	checkNobodyIsDue(t, []int64{1, 3}, []int64{250000, 750001})
	checkNobodyIsDue(t, []int64{4}, []int64{-1})
	checkNobodyIsDue(t, []int64{4, 9}, []int64{0, -1})
	checkNobodyIsDue(t, []int64{4, 9}, []int64{-1, 1})
	checkNobodyIsDue(t, []int64{4, 9}, []int64{most + 1, -1})
}

func TestSingleRunAtTheLimitsOfSteps(t *testing.T) {
	for _, crew := range [][]int64{{4}, {3, 1}, {5, 1, 1}, {1, impl.MaxWeight}, crewOf(impl.MaxCrew, impl.MaxWeight)} {
		for _, counts := range [][]int64{make([]int64, len(crew)), crewOf(len(crew), 8)} {
			checkSingle(t, crew, counts, 0, counts)
			for _, n := range []int64{impl.MaxSteps - 1, impl.MaxSteps} {
				then, taken := wantSingle(t, crew, counts, n)
				checkSingle(t, crew, counts, n, then, taken...)
			}
			for _, n := range wrongSteps() {
				checkNoSingle(t, crew, counts, n)
			}
		}
	}
}

func TestSingleRunThatWouldJustBeRight(t *testing.T) {
	for _, crew := range [][]int64{{4}, {3, 1}, {1, 3}, {5, 1, 1}, {1, impl.MaxWeight}, {2, 9, 4, 9, 1}, crewOf(impl.MaxCrew, 6)} {
		for _, room := range []int64{0, 1, 2, 17, impl.MaxSteps - 1, impl.MaxSteps} {
			// One of them had all but this room; and all had as much as one another.
			one, all := make([]int64, len(crew)), crewOf(len(crew), (impl.MaxTime-room)/int64(len(crew)))
			one[len(crew)/2] = impl.MaxTime - room
			all[0] += (impl.MaxTime - room) % int64(len(crew))
			for _, counts := range [][]int64{one, all} {
				then, taken := wantSingle(t, crew, counts, room)
				checkSingle(t, crew, counts, room, then, taken...)
				checkSingle(t, crew, counts, 0, counts)
				if got := turnsOf(then); got != impl.MaxTime {
					t.Fatalf("a run of %d from %v has %d turns in the end", room, counts, got)
				}
				if got, want := impl.SingleNext(crew, then), wantDue(crew, then); got != want {
					t.Fatalf("SingleNext(%v, %v) = %d; want %d", crew, then, got, want)
				}
				for _, n := range []int64{room + 1, room + 2, impl.MaxSteps, impl.MaxSteps + 1} {
					if n > room {
						checkNoSingle(t, crew, counts, n)
					}
				}
			}
		}
	}
	// That there is room for each one of them is not enough.
	checkSingle(t, []int64{3, 1}, []int64{500000, 499999}, 1, []int64{500001, 499999}, 0)
	checkNoSingle(t, []int64{3, 1}, []int64{500000, 499999}, 2)
}

func TestSingleOfWrongCounts(t *testing.T) {
	for _, c := range wrongCounts() {
		checkNobodyIsDue(t, c.crew, c.counts)
	}
}

func TestSingleOfTheGreatestAndTheLeast(t *testing.T) {
	for _, wrong := range []int64{math.MinInt64, math.MinInt64 + 1, math.MaxInt64 - 1, math.MaxInt64} {
		checkNobodyIsDue(t, []int64{wrong}, []int64{0})
		checkNobodyIsDue(t, []int64{2}, []int64{wrong})
		checkNobodyIsDue(t, []int64{wrong}, []int64{wrong})
		checkNobodyIsDue(t, []int64{wrong, wrong}, []int64{wrong, wrong})
		checkNobodyIsDue(t, []int64{1, wrong, 4}, []int64{0, 0, 0})
		checkNobodyIsDue(t, []int64{1, 2, 4}, []int64{0, 0, wrong})
		checkNobodyIsDue(t, []int64{1, 2}, []int64{wrong, -wrong})
		checkNoSingle(t, []int64{1, 2, 4}, []int64{0, 0, 0}, wrong)
		checkNoSingle(t, []int64{1, 2, 4}, []int64{impl.MaxTime, 0, 0}, wrong)
		checkNoSingle(t, []int64{4}, []int64{impl.MaxTime}, wrong)
	}
}

// tellDue tells what decided who is due first: whether somebody who is not ready would have
// been, whether the first of those that are due at once is not ready, whether several that
// are ready tie, and how far ahead of turns the one that is taken was ready.
func tellDue(crew []int64, counts []int64, told map[string]int) {
	turns, first := turnsOf(counts), wantDue(crew, counts)
	if first < 0 {
		return
	}
	ready, due := wantTurn(crew, counts, int(first))
	if ready == turns {
		told["ready just at turns"]++
	}
	for i := range crew {
		r, d := wantTurn(crew, counts, i)
		switch {
		case r > turns && d < due:
			told["due earlier and not ready"]++
			if r == turns+1 {
				told["due earlier and ready just behind turns"]++
			}
		case r > turns && d == due && i < int(first):
			told["due at once, ahead in the list and not ready"]++
		case r <= turns && d == due && i > int(first):
			told["due at once and behind in the list"]++
		}
	}
}

// smallCounts are all of small crews.
func smallCounts() []counted {
	var list []counted
	for size := 1; size <= 4; size++ {
		crew := crewOf(size, 1)
		for more := true; more; more = stepOn(crew, 1, 5) {
			counts := crewOf(size, 0)
			for again := true; again; again = stepOn(counts, 0, 3) {
				list = append(list, counted{slices.Clone(crew), slices.Clone(counts)})
			}
		}
	}
	return list
}

// stepOn counts a list up as the digits of a number are; false where all were at most.
func stepOn(list []int64, least int64, most int64) bool {
	for i := range list {
		if list[i] < most {
			list[i]++
			return true
		}
		list[i] = least
	}
	return false
}

func TestSingleIsByItsWords(t *testing.T) {
	told := map[string]int{}
	for _, c := range slices.Concat(smallCounts(), manyCounts()) {
		tellDue(c.crew, c.counts, told)
		if got, want := impl.SingleNext(c.crew, c.counts), wantDue(c.crew, c.counts); got != want {
			t.Fatalf("SingleNext(%v, %v) = %d; want %d", c.crew, c.counts, got, want)
		}
	}
	// Each of these has to decide somewhere here, or it would not be tested.
	for _, rule := range []string{
		"ready just at turns", "due earlier and not ready", "due earlier and ready just behind turns",
		"due at once, ahead in the list and not ready", "due at once and behind in the list",
	} {
		if told[rule] < 100 {
			t.Errorf("%s: %d times", rule, told[rule])
		}
	}
}

func TestSingleRunIsByItsWords(t *testing.T) {
	for k, c := range manyCounts() {
		n := int64(k % 70)
		if turnsOf(c.counts)+n > impl.MaxTime {
			checkNoSingle(t, c.crew, c.counts, n)
			continue
		}
		then, taken := wantSingle(t, c.crew, c.counts, n)
		checkSingle(t, c.crew, c.counts, n, then, taken...)
	}
}

func TestSingleIsByTheWindowsOfItsShares(t *testing.T) {
	for _, c := range manyCounts() {
		total, turns := impl.TotalOf(c.crew), impl.TurnsOf(c.crew, c.counts)
		first, earliest := int64(-1), int64(0)
		for i, weight := range c.crew {
			s, j := shareOf(weight, total), c.counts[i]+1
			if j > impl.MaxTime || impl.ReadyAt(s, j) > turns {
				continue
			}
			if due := impl.DueAt(s, j); first < 0 || due < earliest {
				first, earliest = int64(i), due
			}
		}
		if got := impl.SingleNext(c.crew, c.counts); got != first {
			t.Fatalf("SingleNext(%v, %v) = %d; want %d", c.crew, c.counts, got, first)
		}
	}
}

func TestSingleRunIsSingleNextSoOften(t *testing.T) {
	for k, c := range manyCounts() {
		if k%11 != 0 {
			continue
		}
		at, all := slices.Clone(c.counts), []int64{}
		for n := range int64(40) {
			if turnsOf(c.counts)+n > impl.MaxTime {
				checkNoSingle(t, c.crew, c.counts, n)
				continue
			}
			checkSingle(t, c.crew, c.counts, n, at, all...)
			who := impl.SingleNext(c.crew, at)
			if who < 0 {
				continue
			}
			at[who]++
			all = append(all, who)
		}
	}
}

func TestSingleCountsAreOneMoreForEachTime(t *testing.T) {
	for k, c := range manyCounts() {
		n := min(int64(k%300), impl.MaxTime-turnsOf(c.counts))
		then, taken := impl.SingleRun(c.crew, c.counts, n)
		want := slices.Clone(c.counts)
		for _, who := range taken {
			if who < 0 || who >= int64(len(want)) {
				t.Fatalf("SingleRun(%v, %v, %d) takes %d", c.crew, c.counts, n, who)
			}
			want[who]++
		}
		if int64(len(taken)) != n || !slices.Equal(then, want) || !impl.CountsOk(c.crew, then) {
			t.Fatalf("SingleRun(%v, %v, %d) = %v, %v", c.crew, c.counts, n, then, taken)
		}
	}
}

func TestSingleRunInTwoPartsIsOneRun(t *testing.T) {
	for k, c := range manyCounts() {
		n := int64(k%90 + 1)
		first := n * int64(k%7) / 6
		whole, taken := impl.SingleRun(c.crew, c.counts, n)
		middle, ahead := impl.SingleRun(c.crew, c.counts, first)
		end, behind := impl.SingleRun(c.crew, middle, n-first)
		if turnsOf(c.counts)+n > impl.MaxTime {
			if len(whole) != 0 || len(taken) != 0 || len(end) != 0 || len(behind) != 0 {
				t.Fatalf("SingleRun(%v, %v, %d) can't be done", c.crew, c.counts, n)
			}
			continue
		}
		if len(whole) != len(c.crew) || !slices.Equal(whole, end) || !slices.Equal(taken, slices.Concat(ahead, behind)) {
			t.Fatalf("SingleRun(%v, %v, %d) = %v, %v; parts of %d and %d: %v, %v and %v", c.crew, c.counts, n, whole, taken, first, n-first, end, ahead, behind)
		}
	}
}

func TestOnOneNobodyIsEverAWholeTurnAheadOrBehind(t *testing.T) {
	for _, crew := range append(manyCrews(),
		[]int64{1, impl.MaxWeight}, []int64{impl.MaxWeight, 1, impl.MaxWeight - 1}, []int64{999983, 999979, 2},
		crewOf(impl.MaxCrew, 1), crewOf(impl.MaxCrew, impl.MaxWeight),
	) {
		checkNeverAWholeTurn(t, crew, 150)
	}
	// All small crews for two cycles.
	for _, c := range smallCounts() {
		if turnsOf(c.counts) == 0 {
			checkNeverAWholeTurn(t, c.crew, 2*impl.TotalOf(c.crew))
		}
	}
	// One heavy one beside light ones, at both ends.
	for _, heavy := range []int64{2, 22, 23, 24, 1000} {
		for _, place := range []int{0, 11, impl.MaxCrew - 1} {
			crew := crewOf(impl.MaxCrew, 1)
			crew[place] = heavy
			checkNeverAWholeTurn(t, crew, 2*impl.TotalOf(crew))
		}
	}
}

func TestOnOneBehindTotalTurnsEachHadItsWeight(t *testing.T) {
	crews := append(manyCrews(), []int64{20000, 1}, []int64{1, 9999, 3}, []int64{4096, 4097, 4098, 2}, []int64{impl.MaxSteps}, []int64{impl.MaxSteps - 1, 1}, []int64{1, impl.MaxSteps})
	for k, crew := range crews {
		total := impl.TotalOf(crew)
		if total > 10*impl.MaxSteps {
			continue
		}
		cycles := int64(k%3 + 1)
		want := slices.Clone(crew)
		for i := range want {
			want[i] *= cycles
		}
		if counts := checkNeverAWholeTurn(t, crew, cycles*total); !slices.Equal(counts, want) {
			t.Fatalf("of %v: behind %d turns they had %v", crew, cycles*total, counts)
		}
	}
	// As long as a cycle can be.
	for _, crew := range [][]int64{{impl.MaxTime}, {impl.MaxTime - 1, 1}, {1, 333333, 666666}} {
		if counts := checkNeverAWholeTurn(t, crew, impl.MaxTime); !slices.Equal(counts, crew) {
			t.Fatalf("of %v: behind MaxTime turns they had %v", crew, counts)
		}
	}
}

func TestSingleLeavesCrewAndCountsAsTheyWere(t *testing.T) {
	for _, c := range append(manyCounts(), wrongCounts()...) {
		crew, counts := withRoom(c.crew), withRoom(c.counts)
		allCrew, allCounts := slices.Clone(crew[:len(crew)+3]), slices.Clone(counts[:len(counts)+3])
		impl.SingleNext(crew, counts)
		for _, n := range []int64{-1, 0, 1, 5, impl.MaxSteps + 1} {
			impl.SingleRun(crew, counts, n)
		}
		if !slices.Equal(crew[:len(crew)+3], allCrew) || !slices.Equal(counts[:len(counts)+3], allCounts) {
			t.Fatalf("were %v and %v, are %v and %v", allCrew, allCounts, crew[:len(crew)+3], counts[:len(counts)+3])
		}
	}
}

func TestSingleAnswersAreNewMemory(t *testing.T) {
	for _, c := range manyCounts() {
		for _, n := range []int64{0, 1, 4, int64(len(c.crew))} {
			want, wantTaken := impl.SingleRun(c.crew, c.counts, n)
			want, wantTaken = slices.Clone(want), slices.Clone(wantTaken)
			crew, counts := withRoom(c.crew), withRoom(c.counts)
			then, taken := impl.SingleRun(crew, counts, n)
			again, takenAgain := impl.SingleRun(crew, counts, n)
			spoil(then)
			if !slices.Equal(taken, wantTaken) || !slices.Equal(crew, c.crew) || !slices.Equal(counts, c.counts) {
				t.Fatalf("SingleRun(%v, %v, %d): a change of its counts is seen elsewhere", c.crew, c.counts, n)
			}
			spoil(taken)
			if !slices.Equal(crew, c.crew) || !slices.Equal(counts, c.counts) {
				t.Fatalf("SingleRun(%v, %v, %d): a change of who was taken is seen elsewhere", c.crew, c.counts, n)
			}
			spoil(crew)
			spoil(counts)
			if !slices.Equal(again, want) || !slices.Equal(takenAgain, wantTaken) {
				t.Fatalf("SingleRun(%v, %v, %d): a change of an argument or of another answer is seen in it", c.crew, c.counts, n)
			}
		}
	}
}

func TestSingleAnswersTheSameEachTime(t *testing.T) {
	for _, c := range manyCounts() {
		first, taken := impl.SingleRun(c.crew, c.counts, 9)
		second, takenThen := impl.SingleRun(withRoom(c.crew), withRoom(c.counts), 9)
		if !slices.Equal(first, second) || !slices.Equal(taken, takenThen) || impl.SingleNext(c.crew, c.counts) != impl.SingleNext(withRoom(c.crew), withRoom(c.counts)) {
			t.Fatal(c.crew, c.counts)
		}
	}
}
