package tests

import (
	"cmp"
	"math"
	"slices"
	"testing"

	"loop.example/g00763/impl"
)

// listOf has as many Turns as all had together.
func listOf(crew []int64, at int64, had ...int64) impl.List {
	return impl.List{Crew: crew, Had: had, Turns: turnsOf(had), At: at}
}

func sameList(a impl.List, b impl.List) bool {
	return slices.Equal(a.Crew, b.Crew) && slices.Equal(a.Had, b.Had) && a.Turns == b.Turns && a.At == b.At
}

func isZeroList(x impl.List) bool { return sameList(x, impl.List{}) }

// wantOrder is all numbers, the heavier ones first, of one weight the lesser one.
func wantOrder(crew []int64) []int64 {
	var order []int64
	for i := range crew {
		order = append(order, int64(i))
	}
	slices.SortFunc(order, func(a int64, b int64) int {
		return cmp.Or(cmp.Compare(crew[b], crew[a]), cmp.Compare(a, b))
	})
	return order
}

// wantDown is one turn of a list that is right, by the document's words; false where it can't be done.
func wantDown(x impl.List) (impl.List, int64, bool) {
	order, total := wantOrder(x.Crew), turnsOf(x.Crew)
	y := impl.List{Crew: x.Crew, Had: slices.Clone(x.Had), Turns: x.Turns, At: x.At}
	if y.Turns == total {
		y = listOf(x.Crew, 0, make([]int64, len(x.Crew))...)
	}
	taken := order[y.At]
	if y.Had[taken] == y.Crew[taken] {
		return impl.List{}, -1, false
	}
	y.Had[taken]++
	y.Turns++
	down := false
	if place := y.At + 1; place < int64(len(order)) {
		next := order[place]
		isLess := y.Crew[taken]-y.Had[taken] < y.Crew[next]-y.Had[next]
		isBehind := y.Had[next]*total < (y.Turns+1)*y.Crew[next]
		down = isLess || isBehind
	}
	if down {
		y.At++
	} else {
		y.At = 0
	}
	return y, taken, true
}

func wantLeft(x impl.List) []int64 {
	var left []int64
	for _, i := range wantOrder(x.Crew) {
		left = append(left, x.Crew[i]-x.Had[i])
	}
	return left
}

// smallLists are all right lists of small crews.
func smallLists() []impl.List {
	var list []impl.List
	for _, crew := range [][]int64{{1}, {3}, {1, 1}, {2, 3}, {3, 2}, {1, 6}, {5, 5}, {1, 1, 1}, {3, 2, 1}, {1, 2, 3}, {2, 2, 2}, {2, 4, 2}, {4, 1, 4}, {5, 1, 1}, {1, 5, 1}, {3, 3, 6}, {1, 2, 1, 2}, {4, 2, 1, 1}, {1, 1, 2, 4}, {2, 1, 3, 2, 1}} {
		had := make([]int64, len(crew))
		for more := true; more; {
			for at := range crew {
				list = append(list, listOf(crew, int64(at), slices.Clone(had)...))
			}
			// The next Had, as one counts.
			more = false
			for i := range had {
				if had[i]++; had[i] <= crew[i] {
					more = true
					break
				}
				had[i] = 0
			}
		}
	}
	return list
}

// manyLists are right: the small ones, and for each of many crews new ones, ones
// at the end of a cycle, and a fixed sequence of others at every kind of place.
func manyLists() []impl.List {
	state := uint64(53)
	next := func(below int64) int64 {
		state = state*6364136223846793005 + 1442695040888963407
		return int64(state>>33) % below
	}
	list := smallLists()
	for _, crew := range manyCrews() {
		size := int64(len(crew))
		list = append(list, listOf(crew, 0, make([]int64, size)...), listOf(crew, next(size), slices.Clone(crew)...))
		some, even := make([]int64, size), make([]int64, size)
		part := next(100)
		for i, weight := range crew {
			some[i] = next(weight + 1)
			even[i] = min(weight, max(0, weight*part/100+next(3)-1))
		}
		list = append(list, listOf(crew, next(size), some...), listOf(crew, next(size), even...), listOf(crew, size-1, even...))
	}
	return list
}

// wrongLists are not ListOk: the crew is none, there are fewer or more Had than
// weights, one is out of range, Turns is not all together, or At is nowhere.
func wrongLists() []impl.List {
	list := []impl.List{{}, {Turns: 1}, {At: 1}}
	for _, crew := range wrongCrews() {
		list = append(list, listOf(crew, 0, make([]int64, len(crew))...), listOf(crew, 0, slices.Clone(crew)...), listOf(crew, 0, 0), listOf(crew, 0))
	}
	for size := 1; size <= impl.MaxCrew; size++ {
		crew := crewOf(size, 3)
		list = append(list,
			listOf(crew, 0),
			listOf(crew, 0, make([]int64, size-1)...),
			listOf(crew, 0, make([]int64, size+1)...),
			listOf(crew, 0, make([]int64, size+1)[:size-1]...),
			listOf(crew, 0, crewOf(2*size, 1)...),
			listOf(nil, 0, make([]int64, size)...),
		)
		for i := range size {
			for _, one := range []int64{-1, -2, -3, 4, 5, impl.MaxWeight, impl.MaxWeight + 1, math.MinInt64, math.MinInt64 + 1, math.MaxInt64 - 1, math.MaxInt64} {
				had := make([]int64, size)
				had[i] = one
				list = append(list, listOf(crew, 0, had...))
			}
		}
		for _, had := range [][]int64{make([]int64, size), crewOf(size, 2), crewOf(size, 3)} {
			for _, at := range wrongPlaces(size) {
				if at < 0 || at >= int64(size) {
					list = append(list, listOf(crew, at, had...))
				}
			}
			for _, off := range []int64{1, -1, 2, -2, int64(3 * size), int64(-3 * size), math.MinInt64, math.MaxInt64} {
				x := listOf(crew, 0, had...)
				x.Turns += off
				list = append(list, x)
			}
		}
	}
	return list
}

// checkDown asks for one turn that can be done: alone, and as a run.
func checkDown(t *testing.T, x impl.List, taken int64, at int64, had ...int64) {
	t.Helper()
	want := listOf(x.Crew, at, had...)
	if !impl.ListOk(x) || !impl.ListOk(want) {
		t.Errorf("ListOk(%v) = %v, ListOk(%v) = %v", x, impl.ListOk(x), want, impl.ListOk(want))
	}
	if got, who := impl.ListNext(x); who != taken || !sameList(got, want) {
		t.Errorf("ListNext(%v) = %v, %d; want %v, %d", x, got, who, want, taken)
	}
	checkListRun(t, x, 1, want, taken)
}

func checkListRun(t *testing.T, x impl.List, n int64, want impl.List, taken ...int64) {
	t.Helper()
	if got, who := impl.ListRun(x, n); !slices.Equal(who, taken) || !sameList(got, want) {
		t.Errorf("ListRun(%v, %d) = %v, %v; want %v, %v", x, n, got, who, want, taken)
	}
}

func checkLeft(t *testing.T, x impl.List, left ...int64) {
	t.Helper()
	if got := impl.LeftOf(x); !slices.Equal(got, left) {
		t.Errorf("LeftOf(%v) = %v; want %v", x, got, left)
	}
}

func checkNoListRun(t *testing.T, x impl.List, n int64) {
	t.Helper()
	if got, who := impl.ListRun(x, n); len(who) != 0 || !isZeroList(got) {
		t.Errorf("ListRun(%v, %d) = %v, %v; want nothing", x, n, got, who)
	}
}

func checkNoDown(t *testing.T, x impl.List) {
	t.Helper()
	if got, who := impl.ListNext(x); who != -1 || !isZeroList(got) {
		t.Errorf("ListNext(%v) = %v, %d; want nothing, -1", x, got, who)
	}
	for _, n := range []int64{1, 2, 3, impl.MaxSteps} {
		checkNoListRun(t, x, n)
	}
}

// checkStuck is for a right list of which the one at At has nothing left.
func checkStuck(t *testing.T, x impl.List) {
	t.Helper()
	if !impl.ListOk(x) {
		t.Errorf("ListOk(%v) = false", x)
	}
	checkLeft(t, x, wantLeft(x)...)
	checkListRun(t, x, 0, x)
	checkNoDown(t, x)
}

func checkNotList(t *testing.T, x impl.List) {
	t.Helper()
	if impl.ListOk(x) {
		t.Errorf("ListOk(%v) = true", x)
	}
	checkLeft(t, x)
	checkNoDown(t, x)
	for _, n := range append(wrongSteps(), 0) {
		checkNoListRun(t, x, n)
	}
}

// newList is of a crew that is right.
func newList(t *testing.T, crew []int64) impl.List {
	t.Helper()
	x, is := impl.NewList(crew)
	if !is || !impl.ListOk(x) || !sameList(x, listOf(crew, 0, make([]int64, len(crew))...)) {
		t.Fatalf("NewList(%v) = %v, %v", crew, x, is)
	}
	return x
}

func TestListOrdinary(t *testing.T) {
	crew := []int64{3, 2, 1}
	checkDown(t, listOf(crew, 0, 0, 0, 0), 0, 1, 1, 0, 0)
	checkDown(t, listOf(crew, 1, 1, 0, 0), 1, 2, 1, 1, 0)
	checkDown(t, listOf(crew, 2, 1, 1, 0), 2, 0, 1, 1, 1)
	checkDown(t, listOf(crew, 0, 1, 1, 1), 0, 1, 2, 1, 1)
	checkDown(t, listOf(crew, 1, 2, 1, 1), 1, 0, 2, 2, 1)
	checkDown(t, listOf(crew, 0, 2, 2, 1), 0, 1, 3, 2, 1)
	checkDown(t, listOf(crew, 1, 3, 2, 1), 0, 1, 1, 0, 0)
	checkListRun(t, newList(t, crew), 6, listOf(crew, 1, 3, 2, 1), 0, 1, 2, 0, 1, 0)
	checkListRun(t, newList(t, crew), 14, listOf(crew, 2, 1, 1, 0), 0, 1, 2, 0, 1, 0, 0, 1, 2, 0, 1, 0, 0, 1)

	crew = []int64{1, 5, 1}
	checkListRun(t, newList(t, crew), 3, listOf(crew, 0, 1, 1, 1), 1, 0, 2)
	checkListRun(t, newList(t, crew), 7, listOf(crew, 1, 1, 5, 1), 1, 0, 2, 1, 1, 1, 1)
	checkListRun(t, newList(t, crew), 8, listOf(crew, 1, 0, 1, 0), 1, 0, 2, 1, 1, 1, 1, 1)

	crew = []int64{2, 3}
	checkListRun(t, newList(t, crew), 5, listOf(crew, 1, 2, 3), 1, 0, 1, 0, 1)

	crew = []int64{2}
	checkListRun(t, newList(t, crew), 5, listOf(crew, 0, 1), 0, 0, 0, 0, 0)
}

func TestLeftOrdinary(t *testing.T) {
	checkLeft(t, listOf([]int64{3, 2, 1}, 0, 0, 0, 0), 3, 2, 1)
	checkLeft(t, listOf([]int64{1, 2, 3}, 2, 0, 0, 0), 3, 2, 1)
	checkLeft(t, listOf([]int64{1, 2, 3}, 1, 1, 0, 1), 2, 2, 0)
	checkLeft(t, listOf([]int64{4, 7, 4, 7, 4}, 3, 1, 2, 3, 4, 0), 5, 3, 3, 1, 4)
	checkLeft(t, listOf([]int64{6, 9}, 0, 6, 9), 0, 0)
	checkLeft(t, listOf([]int64{5}, 0, 2), 3)
	checkLeft(t, listOf([]int64{1, impl.MaxWeight}, 0, 0, 0), impl.MaxWeight, 1)
	checkLeft(t, listOf([]int64{1, impl.MaxWeight}, 0, 1, 1), impl.MaxWeight-1, 0)
}

func TestNewListOrdinary(t *testing.T) {
	for _, crew := range append(manyCrews(), []int64{1}, []int64{impl.MaxWeight}, crewOf(impl.MaxCrew, 1), crewOf(impl.MaxCrew, impl.MaxWeight)) {
		checkLeft(t, newList(t, crew), wantLeft(newList(t, crew))...)
	}
}

// The first of the two conditions alone: of 108, the next one down had 1 of its
// 4 and is ahead of its time all along.
func TestListTurnsBackByWhatIsLeft(t *testing.T) {
	crew := []int64{4, 4, 100}
	checkDown(t, listOf(crew, 1, 3, 1, 0), 0, 2, 4, 1, 0)
	checkDown(t, listOf(crew, 1, 2, 1, 0), 0, 2, 3, 1, 0)
	checkDown(t, listOf(crew, 1, 1, 1, 0), 0, 2, 2, 1, 0)
	// Just as much is left, and more.
	checkDown(t, listOf(crew, 1, 0, 1, 0), 0, 0, 1, 1, 0)
	checkDown(t, listOf(crew, 1, 0, 2, 0), 0, 0, 1, 2, 0)
	checkDown(t, listOf(crew, 1, 0, 4, 0), 0, 0, 1, 4, 0)
	checkDown(t, listOf(crew, 1, 1, 2, 0), 0, 0, 2, 2, 0)
	checkDown(t, listOf(crew, 1, 2, 3, 0), 0, 0, 3, 3, 0)
	checkDown(t, listOf(crew, 1, 3, 4, 0), 0, 0, 4, 4, 0)
	// Of unlike weights it is what is left that counts, not what was had.
	crew = []int64{200, 9, 6}
	checkDown(t, listOf(crew, 1, 0, 2, 1), 1, 0, 0, 3, 1)
	checkDown(t, listOf(crew, 1, 0, 3, 1), 1, 0, 0, 4, 1)
	checkDown(t, listOf(crew, 1, 0, 4, 1), 1, 2, 0, 5, 1)
	checkDown(t, listOf(crew, 1, 0, 7, 1), 1, 2, 0, 8, 1)
	checkDown(t, listOf(crew, 1, 0, 3, 2), 1, 0, 0, 4, 2)
	checkDown(t, listOf(crew, 1, 0, 4, 2), 1, 0, 0, 5, 2)
	checkDown(t, listOf(crew, 1, 0, 5, 2), 1, 2, 0, 6, 2)
}

// The second of the two conditions alone: of 8, the next one down has 2, and is
// behind its time from the fifth turn on, if it had one.
func TestListTurnsBackByHowFarTheNextOneIs(t *testing.T) {
	crew := []int64{4, 2, 2}
	checkDown(t, listOf(crew, 0, 0, 1, 0), 0, 0, 1, 1, 0)
	checkDown(t, listOf(crew, 0, 1, 1, 0), 0, 0, 2, 1, 0)
	checkDown(t, listOf(crew, 0, 2, 1, 0), 0, 1, 3, 1, 0)
	checkDown(t, listOf(crew, 0, 1, 1, 1), 0, 1, 2, 1, 1)
	checkDown(t, listOf(crew, 0, 0, 1, 2), 0, 1, 1, 1, 2)
	checkDown(t, listOf(crew, 0, 0, 1, 1), 0, 0, 1, 1, 1)
	// Who had nothing is behind at once, who had all only once the cycle is over.
	checkDown(t, listOf(crew, 0, 0, 0, 0), 0, 1, 1, 0, 0)
	checkDown(t, listOf(crew, 0, 2, 2, 2), 0, 0, 3, 2, 2)
	checkDown(t, listOf(crew, 0, 3, 2, 1), 0, 0, 4, 2, 1)
	checkDown(t, listOf(crew, 0, 3, 2, 2), 0, 1, 4, 2, 2)
	// Further down: of 12, the one of 3 is at its time where it had 1 and 3 turns are over.
	crew = []int64{1, 3, 5, 3}
	checkDown(t, listOf(crew, 1, 0, 0, 1, 1), 1, 0, 0, 1, 1, 1)
	checkDown(t, listOf(crew, 1, 0, 0, 2, 1), 1, 2, 0, 1, 2, 1)
	checkDown(t, listOf(crew, 1, 0, 0, 0, 1), 1, 0, 0, 1, 0, 1)
	// And the one of 1, where it had all.
	checkDown(t, listOf(crew, 2, 1, 2, 4, 2), 3, 0, 1, 2, 4, 3)
	checkDown(t, listOf(crew, 2, 1, 3, 5, 2), 3, 3, 1, 3, 5, 3)
}

func TestListTurnsBackByBothOrNone(t *testing.T) {
	crew := []int64{6, 6}
	// Less is left than of the next one, which is behind, too.
	checkDown(t, listOf(crew, 0, 0, 0), 0, 1, 1, 0)
	checkDown(t, listOf(crew, 0, 4, 2), 0, 1, 5, 2)
	checkDown(t, listOf(crew, 0, 5, 0), 0, 1, 6, 0)
	// Just as much is left, but it is behind.
	checkDown(t, listOf(crew, 0, 1, 2), 0, 1, 2, 2)
	checkDown(t, listOf(crew, 0, 5, 6), 0, 1, 6, 6)
	// More is left, and it is at its time or ahead.
	checkDown(t, listOf(crew, 0, 1, 3), 0, 0, 2, 3)
	checkDown(t, listOf(crew, 0, 0, 3), 0, 0, 1, 3)
	checkDown(t, listOf(crew, 0, 0, 6), 0, 0, 1, 6)
	checkDown(t, listOf(crew, 0, 4, 6), 0, 0, 5, 6)
	// There is no next one, whatever is left of the first one.
	for had := range int64(7) {
		checkDown(t, listOf(crew, 1, had, 2), 1, 0, had, 3)
	}
	checkDown(t, listOf([]int64{9}, 0, 4), 0, 0, 5)
	checkDown(t, listOf([]int64{5, 3, 1}, 2, 5, 3, 0), 2, 0, 5, 3, 1)
	checkDown(t, listOf([]int64{5, 3, 1}, 2, 0, 0, 0), 2, 0, 0, 0, 1)
}

// Products as great as they get differ by the least or not at all.
func TestListTurnsBackAtGreatWeights(t *testing.T) {
	const heavy = impl.MaxWeight
	crew := crewOf(impl.MaxCrew, heavy)
	for _, far := range []int64{heavy / 2, heavy - 1} {
		had := crewOf(impl.MaxCrew, far)
		had[0]--
		// All are just as far then: one turn more, and the next one is behind.
		then := crewOf(impl.MaxCrew, far)
		checkDown(t, listOf(crew, 0, had...), 0, 1, then...)
		// One turn of somebody else less, and it is not.
		had[5]--
		then[5]--
		checkDown(t, listOf(crew, 0, had...), 0, 0, then...)
	}
	last := slices.Clone(crew)
	last[0]--
	checkDown(t, listOf(crew, 0, last...), 0, 1, crew...)
	checkDown(t, listOf(crew, impl.MaxCrew-1, crew...), 0, 1, append([]int64{1}, make([]int64, impl.MaxCrew-1)...)...)
	pair := []int64{heavy, 1}
	checkDown(t, listOf(pair, 0, heavy-1, 1), 0, 1, heavy, 1)
	checkDown(t, listOf(pair, 0, heavy-2, 1), 0, 0, heavy-1, 1)
	checkDown(t, listOf(pair, 0, heavy-1, 0), 0, 1, heavy, 0)
	checkDown(t, listOf(pair, 1, heavy, 0), 1, 0, heavy, 1)
}

func TestListAtTheEndOfACycle(t *testing.T) {
	for _, crew := range append(manyCrews(), []int64{1}, []int64{impl.MaxWeight}, []int64{1, impl.MaxWeight}) {
		order := wantOrder(crew)
		first := make([]int64, len(crew))
		first[order[0]] = 1
		then := int64(min(1, len(crew)-1))
		for at := range order {
			// Wherever At stands, the first one of all begins.
			over := listOf(crew, int64(at), slices.Clone(crew)...)
			checkDown(t, over, order[0], then, first...)
			checkListRun(t, over, 0, over)
			checkLeft(t, over, make([]int64, len(crew))...)
			// The last turn of it is somebody's whose turn alone is left.
			last := slices.Clone(crew)
			last[order[at]]--
			end := int64(0)
			if at+1 < len(order) {
				end = int64(at + 1)
			}
			checkDown(t, listOf(crew, int64(at), last...), order[at], end, crew...)
			checkListRun(t, listOf(crew, int64(at), last...), 2, listOf(crew, then, first...), order[at], order[0])
		}
	}
}

func TestListTiesTakeTheLesserNumberFirst(t *testing.T) {
	three := []int64{2, 2, 2}
	checkListRun(t, newList(t, three), 6, listOf(three, 0, 2, 2, 2), 0, 1, 2, 0, 1, 2)
	five := []int64{4, 7, 4, 7, 4}
	checkListRun(t, newList(t, five), 5, listOf(five, 0, 1, 1, 1, 1, 1), 1, 3, 0, 2, 4)
	for at, who := range []int64{1, 3, 0, 2, 4} {
		if _, taken := impl.ListNext(listOf(five, int64(at), make([]int64, 5)...)); taken != who {
			t.Errorf("at %d of %v %d is taken; want %d", at, five, taken, who)
		}
	}
	for size := 1; size <= impl.MaxCrew; size++ {
		for _, weight := range []int64{1, 2, 9, impl.MaxWeight} {
			crew := crewOf(size, weight)
			var inOrder []int64
			for i := range size {
				inOrder = append(inOrder, int64(i))
			}
			checkListRun(t, newList(t, crew), int64(size), listOf(crew, 0, crewOf(size, 1)...), inOrder...)
			for i := range size {
				had := crewOf(size, weight-1)
				had[i]++
				checkDown(t, listOf(crew, int64(i), crewOf(size, weight-1)...), int64(i), atBehind(i, size), had...)
			}
		}
	}
}

// atBehind is the place below i, or the head where there is none.
func atBehind(i int, size int) int64 { return int64((i + 1) % size) }

func TestListAtTheLimitsOfTheCrew(t *testing.T) {
	for _, weight := range []int64{1, impl.MaxWeight} {
		checkDown(t, listOf([]int64{weight}, 0, 0), 0, 0, 1)
		checkDown(t, listOf([]int64{weight}, 0, weight), 0, 0, 1)
		checkNotList(t, listOf(crewOf(impl.MaxCrew+1, weight), 0, make([]int64, impl.MaxCrew+1)...))
		checkNotList(t, listOf(crewOf(impl.MaxCrew+1, weight), 0, make([]int64, impl.MaxCrew)...))
		checkNotList(t, listOf(crewOf(impl.MaxCrew, weight), 0, make([]int64, impl.MaxCrew+1)...))
		checkNotList(t, listOf(crewOf(impl.MaxCrew, weight), 0, make([]int64, impl.MaxCrew-1)...))
	}
	checkNotList(t, impl.List{})
	checkNotList(t, listOf([]int64{}, 0))
	checkNotList(t, listOf(nil, 0, 0))
	checkNotList(t, listOf([]int64{0}, 0, 0))
	checkNotList(t, listOf([]int64{3, 0}, 0, 0, 0))
	checkNotList(t, listOf([]int64{impl.MaxWeight + 1}, 0, 0))
	checkNotList(t, listOf([]int64{3, impl.MaxWeight + 1}, 0, 0, 0))
}

func TestListAtTheLimitsOfWhatWasHad(t *testing.T) {
	checkDown(t, listOf([]int64{1, 4}, 0, 0, 3), 1, 1, 0, 4)
	checkDown(t, listOf([]int64{1, 4}, 0, 1, 3), 1, 1, 1, 4)
	checkDown(t, listOf([]int64{1, 4}, 1, 0, 4), 0, 0, 1, 4)
	checkNotList(t, listOf([]int64{1, 4}, 0, 2, 0))
	checkNotList(t, listOf([]int64{1, 4}, 0, 2, 3))
	checkNotList(t, listOf([]int64{1, 4}, 0, 0, 5))
	checkNotList(t, listOf([]int64{1, 4}, 0, -1, 0))
	checkNotList(t, listOf([]int64{1, 4}, 0, 0, -1))
	checkNotList(t, listOf([]int64{1, 4}, 0, 1, -1))
	checkNotList(t, listOf([]int64{1, 4}, 0, -1, 1))
	// Each one is held to its own weight, not to another's and not in ByWeight's order.
	checkNotList(t, listOf([]int64{1, 4}, 0, 4, 1))
	checkNotList(t, listOf([]int64{1, impl.MaxWeight}, 0, impl.MaxWeight, 1))
	checkDown(t, listOf([]int64{1, impl.MaxWeight}, 0, 1, impl.MaxWeight), 1, 1, 0, 1)
	checkNotList(t, listOf([]int64{1, impl.MaxWeight}, 0, 1, impl.MaxWeight+1))
	checkNotList(t, listOf([]int64{1, impl.MaxWeight}, 0, 2, impl.MaxWeight-1))
}

func TestListTurnsAreAllTogether(t *testing.T) {
	for _, x := range smallLists() {
		if !impl.ListOk(x) {
			t.Fatalf("ListOk(%v) = false", x)
		}
		for _, off := range []int64{1, -1, turnsOf(x.Crew), -turnsOf(x.Crew)} {
			wrong := x
			wrong.Turns += off
			if impl.ListOk(wrong) || len(impl.LeftOf(wrong)) != 0 {
				t.Fatalf("ListOk(%v) = true", wrong)
			}
		}
	}
	crew := crewOf(impl.MaxCrew, impl.MaxWeight)
	x := listOf(crew, 3, slices.Clone(crew)...)
	if !impl.ListOk(x) || x.Turns != impl.MaxCrew*impl.MaxWeight {
		t.Errorf("ListOk(%v) = false", x)
	}
	for _, turns := range []int64{0, 1, -1, x.Turns - 1, x.Turns + 1, -x.Turns, math.MinInt64, math.MaxInt64, x.Turns + 1<<32} {
		x.Turns = turns
		checkNotList(t, x)
	}
}

func TestListAtTheLimitsOfAt(t *testing.T) {
	for size := int64(1); size <= impl.MaxCrew; size++ {
		crew := crewOf(int(size), 5)
		had := crewOf(int(size), 2)
		for at := range size {
			then := slices.Clone(had)
			then[at]++
			checkDown(t, listOf(crew, at, had...), at, atBehind(int(at), int(size)), then...)
		}
		for _, at := range []int64{-1, size, -size, size + 1, 1 << 32, -1 << 32, math.MinInt64, math.MaxInt64} {
			checkNotList(t, listOf(crew, at, had...))
			// Where a cycle is over At is not looked at any more, but must be right.
			checkNotList(t, listOf(crew, at, crew...))
		}
	}
}

func TestListWithNothingLeft(t *testing.T) {
	checkStuck(t, listOf([]int64{1, 2}, 1, 1, 0))
	checkStuck(t, listOf([]int64{1, 2}, 1, 1, 1))
	checkStuck(t, listOf([]int64{1, 2}, 0, 0, 2))
	checkStuck(t, listOf([]int64{5, 3, 1}, 0, 5, 0, 0))
	checkStuck(t, listOf([]int64{5, 3, 1}, 1, 4, 3, 1))
	checkStuck(t, listOf([]int64{5, 3, 1}, 2, 5, 2, 1))
	// One is left.
	checkDown(t, listOf([]int64{1, 2}, 1, 0, 0), 0, 0, 1, 0)
	checkDown(t, listOf([]int64{1, 2}, 0, 0, 1), 1, 1, 0, 2)
	checkDown(t, listOf([]int64{5, 3, 1}, 0, 4, 0, 0), 0, 1, 5, 0, 0)
	checkDown(t, listOf([]int64{5, 3, 1}, 1, 4, 2, 1), 1, 0, 4, 3, 1)
	// Of a full crew, at every place.
	for at := range impl.MaxCrew {
		crew, had := crewOf(impl.MaxCrew, 6), crewOf(impl.MaxCrew, 5)
		had[at]++
		checkStuck(t, listOf(crew, int64(at), had...))
	}
}

// lateStop can be done for so many turns and no more: both are taken by turns
// until the first one has nothing left, of which the second one has plenty.
func lateStop(turns int64) impl.List {
	return listOf(crewOf(2, impl.MaxWeight), turns%2, impl.MaxWeight-turns/2, 0)
}

func TestListRunOfWhichTheLastTurnAloneCannotBeDone(t *testing.T) {
	for _, turns := range []int64{0, 1, 2, 3, 18, impl.MaxSteps - 2, impl.MaxSteps - 1, impl.MaxSteps} {
		x := lateStop(turns)
		var taken []int64
		for k := range turns {
			taken = append(taken, (k+turns)%2)
		}
		want := listOf(x.Crew, 0, impl.MaxWeight, turns-turns/2)
		checkListRun(t, x, turns, want, taken...)
		checkStuck(t, want)
		for _, n := range []int64{turns + 1, turns + 2, impl.MaxSteps, impl.MaxSteps + 1} {
			if n > turns {
				checkNoListRun(t, x, n)
			}
		}
	}
	// It turns back to a head that has nothing left.
	crew := []int64{5, 3, 1}
	checkListRun(t, listOf(crew, 1, 5, 0, 0), 2, listOf(crew, 0, 5, 1, 1), 1, 2)
	checkNoListRun(t, listOf(crew, 1, 5, 0, 0), 3)
	checkListRun(t, listOf(crew, 2, 5, 2, 0), 1, listOf(crew, 0, 5, 2, 1), 2)
	checkNoListRun(t, listOf(crew, 2, 5, 2, 0), 2)
}

func TestListRunAtTheLimitsOfSteps(t *testing.T) {
	for _, crew := range [][]int64{{4}, {1}, {5, 1, 1}, {2, 3}, {1, impl.MaxWeight}, crewOf(impl.MaxCrew, impl.MaxWeight)} {
		x := newList(t, crew)
		checkListRun(t, x, 0, x)
		for _, n := range []int64{impl.MaxSteps - 1, impl.MaxSteps} {
			want, taken := x, []int64{}
			for range n {
				next, who, _ := wantDown(want)
				want, taken = next, append(taken, who)
			}
			checkListRun(t, x, n, want, taken...)
		}
		for _, n := range wrongSteps() {
			checkNoListRun(t, x, n)
			checkNoListRun(t, listOf(crew, 0, crew...), n)
		}
	}
	// No turn is asked for, so the list is as it is, whatever comes next.
	for _, x := range manyLists() {
		checkListRun(t, x, 0, x)
	}
}

func TestWrongLists(t *testing.T) {
	for _, x := range wrongLists() {
		checkNotList(t, x)
	}
}

func TestNoNewListOfAWrongCrew(t *testing.T) {
	for _, crew := range wrongCrews() {
		if x, is := impl.NewList(crew); is || !isZeroList(x) {
			t.Errorf("NewList(%v) = %v, %v; want nothing", crew, x, is)
		}
	}
}

func TestListOfTheGreatestAndTheLeast(t *testing.T) {
	for _, wrong := range []int64{math.MinInt64, math.MinInt64 + 1, math.MaxInt64 - 1, math.MaxInt64} {
		checkNotList(t, listOf([]int64{wrong}, 0, 0))
		checkNotList(t, listOf([]int64{wrong}, 0, wrong))
		checkNotList(t, listOf([]int64{2}, 0, wrong))
		checkNotList(t, listOf([]int64{2, 3}, 0, wrong, -wrong))
		checkNotList(t, listOf([]int64{2, 3}, wrong, 0, 0))
		checkNotList(t, impl.List{Crew: []int64{2, 3}, Had: []int64{0, 0}, Turns: wrong})
		checkNotList(t, impl.List{Crew: []int64{wrong, wrong}, Had: []int64{wrong, wrong}, Turns: wrong, At: wrong})
		checkNoListRun(t, listOf([]int64{2, 3}, 0, 0, 0), wrong)
		checkNoListRun(t, listOf([]int64{2, 3}, 0, 2, 3), wrong)
	}
}

// What wraps round in a sum is right together, but not one by one.
func TestListOfSumsThatWrapRound(t *testing.T) {
	const least, most = math.MinInt64, math.MaxInt64
	sums := []struct {
		had   []int64
		turns int64
	}{
		{[]int64{least, least, 1, 0}, 1},
		{[]int64{most, most, 2, 0}, 0},
		{[]int64{most, most, 3, 3}, 4},
		{[]int64{least / 2, least / 2, least / 2, least / 2}, 0},
		{[]int64{most, least, 1, 2}, 2},
		{[]int64{3, most, 3, least + 1}, 6},
	}
	for _, sum := range sums {
		x := listOf(crewOf(4, 3), 0, sum.had...)
		if x.Turns != sum.turns {
			t.Fatalf("%v together is %d, not %d", sum.had, x.Turns, sum.turns)
		}
		checkNotList(t, x)
	}
	checkNotList(t, listOf([]int64{most, most, 3}, 0, most, most, 3))
	checkNotList(t, listOf([]int64{least, least, 1}, 0, 0, 0, 1))
}

func TestListIsByItsWords(t *testing.T) {
	stuck, over, down, back := 0, 0, 0, 0
	for _, x := range manyLists() {
		for range 25 {
			checkLeft(t, x, wantLeft(x)...)
			want, taken, can := wantDown(x)
			if !can {
				stuck++
				checkStuck(t, x)
				break
			}
			if got, who := impl.ListNext(x); !impl.ListOk(x) || who != taken || !sameList(got, want) {
				t.Fatalf("ListNext(%v) = %v, %d; want %v, %d", x, got, who, want, taken)
			}
			switch {
			case x.Turns == turnsOf(x.Crew):
				over++
			case want.At > 0:
				down++
			default:
				back++
			}
			x = want
		}
	}
	if stuck == 0 || over == 0 || down == 0 || back == 0 {
		t.Fatal("not all is asked for", stuck, over, down, back)
	}
}

// downFor is a run from a new list of as many turns as are asked for, in as many runs as it takes.
func downFor(t *testing.T, x impl.List, turns int64) (impl.List, []int64) {
	t.Helper()
	var all []int64
	for left := turns; left > 0; left -= impl.MaxSteps {
		then, taken := impl.ListRun(x, min(left, impl.MaxSteps))
		if int64(len(taken)) != min(left, impl.MaxSteps) || !impl.ListOk(then) {
			t.Fatalf("ListRun(%v, %d) = %v, %v", x, min(left, impl.MaxSteps), then, taken)
		}
		x, all = then, append(all, taken...)
	}
	return x, all
}

func TestEachCycleHasTotalTurnsOfWhichEachHadItsWeight(t *testing.T) {
	crews := append(manyCrews(), []int64{20000, 1}, []int64{1, 9999, 3}, []int64{4096, 4097, 4098, 2}, []int64{impl.MaxSteps}, []int64{impl.MaxSteps - 1, 1}, []int64{1, impl.MaxSteps}, []int64{impl.MaxWeight, 333333, 7}, crewOf(1, impl.MaxWeight))
	for _, crew := range crews {
		total := turnsOf(crew)
		if total > 2*impl.MaxWeight {
			continue
		}
		x := newList(t, crew)
		for cycle := range 3 {
			if cycle > 0 && total > 10*impl.MaxSteps {
				break
			}
			then, taken := downFor(t, x, total)
			counts := make([]int64, len(crew))
			for _, who := range taken {
				counts[who]++
			}
			if !slices.Equal(counts, crew) || !slices.Equal(then.Had, crew) || then.Turns != total {
				t.Fatalf("of %v: in cycle %d they had %v, and it is %v", crew, cycle, counts, then)
			}
			x = then
		}
	}
}

// rises tells at how many places the list rises, and by how much at most.
func rises(list []int64) (int, int64) {
	places, most := 0, int64(0)
	for k := 1; k < len(list); k++ {
		if list[k] > list[k-1] {
			places++
			most = max(most, list[k]-list[k-1])
		}
	}
	return places, most
}

func TestWhatIsLeftNeverRisesButByOneAtOnePlace(t *testing.T) {
	rose := 0
	for _, crew := range append(manyCrews(), []int64{1, impl.MaxWeight}, []int64{20, 19, 19, 18, 2, 1}, []int64{40, 3, 3, 3}, []int64{999983, 999979, 2}) {
		x := newList(t, crew)
		for range min(400, 3*turnsOf(crew)) {
			then, who := impl.ListNext(x)
			left := impl.LeftOf(then)
			places, most := rises(left)
			if who < 0 || len(left) != len(crew) || places > 1 || most > 1 {
				t.Fatalf("ListNext(%v) = %v, %d: what is left is %v", x, then, who, left)
			}
			rose += places
			x = then
		}
	}
	if rose == 0 {
		t.Fatal("it never rose")
	}
}

func TestOverACycleWhatIsLeftNeverRisesButByOneAtOnePlace(t *testing.T) {
	var crews [][]int64
	for a := int64(1); a <= 6; a++ {
		for b := int64(1); b <= 6; b++ {
			crews = append(crews, []int64{a, b})
			for c := int64(1); c <= 6; c++ {
				crews = append(crews, []int64{a, b, c}, []int64{a, b, c, a}, []int64{c, 1, b, a, 9})
			}
		}
	}
	for _, crew := range append(crews, []int64{700, 500, 499, 3, 3, 1}, []int64{1, 1000, 10, 100}) {
		x := newList(t, crew)
		for turn := range 2*turnsOf(crew) + 1 {
			left := impl.LeftOf(x)
			if places, most := rises(left); places > 1 || most > 1 || len(left) != len(crew) {
				t.Fatalf("of %v behind %d turns: left is %v", crew, turn, left)
			}
			x, _ = impl.ListNext(x)
		}
	}
}

func TestWhatIsLeftIsTheWeightLessWhatWasHad(t *testing.T) {
	for _, x := range manyLists() {
		left := impl.LeftOf(x)
		order := impl.ByWeight(x.Crew)
		if len(left) != len(order) {
			t.Fatalf("LeftOf(%v) = %v", x, left)
		}
		for place, i := range order {
			if left[place]+x.Had[i] != x.Crew[i] {
				t.Fatalf("LeftOf(%v) = %v: at %d", x, left, place)
			}
		}
	}
}

func TestListRunInTwoPartsIsOneRun(t *testing.T) {
	for k, x := range manyLists() {
		n := int64(k%60 + 1)
		first := n * int64(k%7) / 6
		whole, taken := impl.ListRun(x, n)
		middle, ahead := impl.ListRun(x, first)
		end, behind := impl.ListRun(middle, n-first)
		if isZeroList(whole) {
			if !isZeroList(end) || len(behind) != 0 {
				t.Fatalf("ListRun(%v, %d) can't be done, but its parts can", x, n)
			}
			continue
		}
		if !sameList(whole, end) || !slices.Equal(taken, slices.Concat(ahead, behind)) {
			t.Fatalf("ListRun(%v, %d) = %v, %v; parts of %d and %d: %v, %v and %v", x, n, whole, taken, first, n-first, end, ahead, behind)
		}
	}
}

func TestListRunIsListNextSoOften(t *testing.T) {
	for k, x := range manyLists() {
		if k%9 != 0 {
			continue
		}
		at, all := x, []int64{}
		for n := range int64(40) {
			if isZeroList(at) {
				checkNoListRun(t, x, n)
				continue
			}
			checkListRun(t, x, n, at, all...)
			next, who := impl.ListNext(at)
			at, all = next, append(all, who)
		}
	}
}

func TestListStaysAsItWas(t *testing.T) {
	late := []impl.List{lateStop(0), lateStop(1), lateStop(2)}
	for _, x := range slices.Concat(manyLists(), wrongLists(), late) {
		crew, had := withRoom(x.Crew), withRoom(x.Had)
		allCrew, allHad := slices.Clone(crew[:len(crew)+3]), slices.Clone(had[:len(had)+3])
		given := impl.List{Crew: crew, Had: had, Turns: x.Turns, At: x.At}
		impl.ListOk(given)
		impl.NewList(crew)
		impl.LeftOf(given)
		impl.ListNext(given)
		for _, n := range []int64{-1, 0, 1, 7, impl.MaxSteps + 1} {
			impl.ListRun(given, n)
		}
		if !slices.Equal(crew[:len(crew)+3], allCrew) || !slices.Equal(had[:len(had)+3], allHad) {
			t.Fatalf("were %v and %v, are %v and %v", allCrew, allHad, crew[:len(crew)+3], had[:len(had)+3])
		}
	}
}

func TestListAnswersAreNewMemory(t *testing.T) {
	answers := map[string]func(impl.List) (impl.List, []int64){
		"new":  func(x impl.List) (impl.List, []int64) { y, _ := impl.NewList(x.Crew); return y, nil },
		"left": func(x impl.List) (impl.List, []int64) { return impl.List{}, impl.LeftOf(x) },
		"next": func(x impl.List) (impl.List, []int64) { y, _ := impl.ListNext(x); return y, nil },
		"run0": func(x impl.List) (impl.List, []int64) { return impl.ListRun(x, 0) },
		"run1": func(x impl.List) (impl.List, []int64) { return impl.ListRun(x, 1) },
		"run4": func(x impl.List) (impl.List, []int64) { return impl.ListRun(x, 4) },
	}
	for _, x := range manyLists() {
		for name, ask := range answers {
			given := impl.List{Crew: withRoom(x.Crew), Had: withRoom(x.Had), Turns: x.Turns, At: x.At}
			want, wantTaken := ask(x)
			want.Crew, want.Had, wantTaken = slices.Clone(want.Crew), slices.Clone(want.Had), slices.Clone(wantTaken)
			got, taken := ask(given)
			again, takenAgain := ask(given)
			// One list of the answer after the other is spoilt; those that come later must be as they were.
			spoil(got.Crew)
			if !slices.Equal(got.Had, want.Had) || !slices.Equal(taken, wantTaken) || !sameList(given, x) {
				t.Fatalf("%s of %v: a change of its Crew is seen elsewhere", name, x)
			}
			spoil(got.Had)
			if !slices.Equal(taken, wantTaken) || !sameList(given, x) {
				t.Fatalf("%s of %v: a change of its Had is seen elsewhere", name, x)
			}
			spoil(taken)
			if !sameList(given, x) {
				t.Fatalf("%s of %v: a change of what it tells is seen in the argument", name, x)
			}
			spoil(given.Crew)
			spoil(given.Had)
			if !sameList(again, want) || !slices.Equal(takenAgain, wantTaken) {
				t.Fatalf("%s of %v: a change of the argument or of another answer is seen in it", name, x)
			}
		}
	}
}
