package tests

import (
	"math"
	"slices"
	"testing"

	"loop.example/g00763/impl"
)

func smoothOf(crew []int64, rich ...int64) impl.Smooth {
	return impl.Smooth{Crew: crew, Rich: rich}
}

func sameSmooth(a impl.Smooth, b impl.Smooth) bool {
	return slices.Equal(a.Crew, b.Crew) && slices.Equal(a.Rich, b.Rich)
}

// manySmooths are right: all new ones of many crews, and for each crew a fixed
// sequence of others, of which some are poor and some as rich as they may be.
func manySmooths() []impl.Smooth {
	state := uint64(31)
	next := func(below int64) int64 {
		state = state*6364136223846793005 + 1442695040888963407
		return int64(state>>33) % below
	}
	var list []impl.Smooth
	for _, crew := range manyCrews() {
		size := int64(len(crew))
		list = append(list, smoothOf(crew, make([]int64, size)...))
		for _, most := range []int64{1, 3, 40, impl.MaxWeight, impl.MaxRich} {
			// What one of two is richer, the other one is poorer.
			rich := make([]int64, size)
			for range size {
				a, b := next(size), next(size)
				give := min(next(most+1), impl.MaxRich-rich[a], impl.MaxRich+rich[b])
				rich[a] += give
				rich[b] -= give
			}
			list = append(list, smoothOf(crew, rich...))
		}
	}
	return list
}

// wrongSmooths are not SmoothOk: the crew is none, there are fewer or more Rich
// than weights, one is out of range, or all together are not 0.
func wrongSmooths() []impl.Smooth {
	list := []impl.Smooth{{}}
	for _, crew := range wrongCrews() {
		list = append(list, smoothOf(crew, make([]int64, len(crew))...), smoothOf(crew, 0), smoothOf(crew))
	}
	for size := 1; size <= impl.MaxCrew; size++ {
		crew := crewOf(size, 3)
		list = append(list,
			smoothOf(crew),
			smoothOf(crew, make([]int64, size-1)...),
			smoothOf(crew, make([]int64, size+1)...),
			smoothOf(crew, make([]int64, size+1)[:size-1]...),
			smoothOf(crew, make([]int64, 2*size)...),
			smoothOf(nil, make([]int64, size)...),
		)
		for i := range size {
			for _, one := range []int64{1, -1, 2, impl.MaxRich, -impl.MaxRich, impl.MaxRich + 1, -impl.MaxRich - 1, math.MinInt64, math.MinInt64 + 1, math.MaxInt64 - 1, math.MaxInt64} {
				rich := make([]int64, size)
				rich[i] = one
				list = append(list, smoothOf(crew, rich...))
			}
		}
	}
	// 0 together, but for what wraps round.
	const wrap = math.MinInt64
	return append(list,
		smoothOf([]int64{1, 3}, impl.MaxRich+1, -impl.MaxRich-1),
		smoothOf([]int64{1, 3}, -impl.MaxRich-1, impl.MaxRich+1),
		smoothOf([]int64{1, 3}, wrap, wrap),
		smoothOf([]int64{1, 3}, -math.MaxInt64, math.MaxInt64),
		smoothOf([]int64{1, 3}, math.MaxInt64, -math.MaxInt64),
		smoothOf([]int64{1, 3, 2}, wrap, math.MaxInt64, 1),
		smoothOf([]int64{1, 3, 2}, 1, math.MaxInt64, wrap),
		smoothOf([]int64{1, 3, 2, 2}, wrap/2, wrap/2, wrap/2, wrap/2),
		smoothOf([]int64{wrap, wrap}, 0, 0),
		smoothOf([]int64{math.MaxInt64, math.MaxInt64, 2}, 0, 0, 0),
		smoothOf([]int64{wrap, math.MaxInt64}, wrap, math.MaxInt64),
	)
}

func wrongSteps() []int64 {
	return []int64{-1, -2, -impl.MaxSteps, impl.MaxSteps + 1, 2 * impl.MaxSteps, 1 << 32, -1 << 32, math.MinInt64, math.MaxInt64}
}

// checkNext asks for one step that can be done: alone, and as a run.
func checkNext(t *testing.T, x impl.Smooth, taken int64, rich ...int64) {
	t.Helper()
	want := smoothOf(x.Crew, rich...)
	if !impl.SmoothOk(x) || !impl.SmoothOk(want) {
		t.Errorf("SmoothOk(%v) = %v, SmoothOk(%v) = %v", x, impl.SmoothOk(x), want, impl.SmoothOk(want))
	}
	if got, who := impl.SmoothNext(x); who != taken || !sameSmooth(got, want) {
		t.Errorf("SmoothNext(%v) = %v, %d; want %v, %d", x, got, who, want, taken)
	}
	checkRun(t, x, 1, want, taken)
}

func checkRun(t *testing.T, x impl.Smooth, n int64, want impl.Smooth, taken ...int64) {
	t.Helper()
	if got, who := impl.SmoothRun(x, n); !slices.Equal(who, taken) || !sameSmooth(got, want) {
		t.Errorf("SmoothRun(%v, %d) = %v, %v; want %v, %v", x, n, got, who, want, taken)
	}
}

func isZeroSmooth(x impl.Smooth) bool { return len(x.Crew) == 0 && len(x.Rich) == 0 }

func checkNoRun(t *testing.T, x impl.Smooth, n int64) {
	t.Helper()
	if got, who := impl.SmoothRun(x, n); len(who) != 0 || !isZeroSmooth(got) {
		t.Errorf("SmoothRun(%v, %d) = %v, %v; want nothing", x, n, got, who)
	}
}

// checkNoNext asks for one step that cannot be done.
func checkNoNext(t *testing.T, x impl.Smooth) {
	t.Helper()
	if got, who := impl.SmoothNext(x); who != -1 || !isZeroSmooth(got) {
		t.Errorf("SmoothNext(%v) = %v, %d; want nothing, -1", x, got, who)
	}
	for _, n := range []int64{1, 2, 3, impl.MaxSteps} {
		checkNoRun(t, x, n)
	}
}

func checkNotSmooth(t *testing.T, x impl.Smooth) {
	t.Helper()
	if impl.SmoothOk(x) {
		t.Errorf("SmoothOk(%v) = true", x)
	}
	checkNoNext(t, x)
	for _, n := range append(wrongSteps(), 0) {
		checkNoRun(t, x, n)
	}
}

// wantNext is one step, by the document's words: all are richer by their
// weight, the first of those that have most then is taken.
func wantNext(x impl.Smooth) (impl.Smooth, int64, bool) {
	total := int64(0)
	rich := slices.Clone(x.Rich)
	for i, weight := range x.Crew {
		total += weight
		rich[i] += weight
	}
	taken := slices.Index(rich, slices.Max(rich))
	rich[taken] -= total
	right := slices.Max(rich) <= impl.MaxRich && slices.Min(rich) >= -impl.MaxRich
	return smoothOf(x.Crew, rich...), int64(taken), right
}

// newSmooth is of a crew that is right.
func newSmooth(t *testing.T, crew []int64) impl.Smooth {
	t.Helper()
	x, is := impl.NewSmooth(crew)
	if !is || !impl.SmoothOk(x) || !sameSmooth(x, smoothOf(crew, make([]int64, len(crew))...)) {
		t.Fatalf("NewSmooth(%v) = %v, %v", crew, x, is)
	}
	return x
}

func TestSmoothLimitsAreAsTold(t *testing.T) {
	if impl.MaxRich != 100000000 || impl.MaxSteps != 3000 {
		t.Fatal(impl.MaxRich, impl.MaxSteps)
	}
}

func TestSmoothOrdinary(t *testing.T) {
	crew := []int64{5, 1, 1}
	checkNext(t, smoothOf(crew, 0, 0, 0), 0, -2, 1, 1)
	checkNext(t, smoothOf(crew, -2, 1, 1), 0, -4, 2, 2)
	checkNext(t, smoothOf(crew, -4, 2, 2), 1, 1, -4, 3)
	checkNext(t, smoothOf(crew, 1, -4, 3), 0, -1, -3, 4)
	checkNext(t, smoothOf(crew, -1, -3, 4), 2, 4, -2, -2)
	checkNext(t, smoothOf(crew, 4, -2, -2), 0, 2, -1, -1)
	checkNext(t, smoothOf(crew, 2, -1, -1), 0, 0, 0, 0)
	checkRun(t, smoothOf(crew, 0, 0, 0), 7, smoothOf(crew, 0, 0, 0), 0, 0, 1, 0, 2, 0, 0)
	checkRun(t, smoothOf(crew, 0, 0, 0), 4, smoothOf(crew, -1, -3, 4), 0, 0, 1, 0)
	checkRun(t, smoothOf(crew, 1, -4, 3), 3, smoothOf(crew, 2, -1, -1), 0, 2, 0)

	crew = []int64{1, 2, 3}
	checkRun(t, smoothOf(crew, 0, 0, 0), 6, smoothOf(crew, 0, 0, 0), 2, 1, 0, 2, 1, 2)
	checkNext(t, smoothOf(crew, 5, -2, -3), 0, 0, 0, 0)
	checkNext(t, smoothOf(crew, -7, 9, -2), 1, -6, 5, 1)

	crew = []int64{2, 3}
	checkRun(t, smoothOf(crew, 0, 0), 5, smoothOf(crew, 0, 0), 1, 0, 1, 0, 1)
}

func TestNewSmoothOrdinary(t *testing.T) {
	for _, crew := range [][]int64{{1}, {5, 1, 1}, {2, 3}, {impl.MaxWeight}, crewOf(impl.MaxCrew, 1), crewOf(impl.MaxCrew, impl.MaxWeight)} {
		newSmooth(t, crew)
	}
}

func TestSmoothTakesTheFirstOfThoseThatHaveMost(t *testing.T) {
	four := []int64{2, 2, 2, 2}
	checkNext(t, smoothOf(four, 0, 0, 0, 0), 0, -6, 2, 2, 2)
	checkNext(t, smoothOf(four, 3, 3, -3, -3), 0, -3, 5, -1, -1)
	checkNext(t, smoothOf(four, 3, -3, -3, 3), 0, -3, -1, -1, 5)
	checkNext(t, smoothOf(four, -3, 3, 3, -3), 1, -1, -3, 5, -1)
	checkNext(t, smoothOf(four, -3, -3, 3, 3), 2, -1, -1, -3, 5)
	checkNext(t, smoothOf(four, -3, 1, 1, 1), 1, -1, -5, 3, 3)
	checkNext(t, smoothOf(four, 1, 1, -3, 1), 0, -5, 3, -1, 3)
	checkRun(t, smoothOf(four, 0, 0, 0, 0), 8, smoothOf(four, 0, 0, 0, 0), 0, 1, 2, 3, 0, 1, 2, 3)

	// What counts is what they have once the weights came to them.
	checkNext(t, smoothOf([]int64{1, 3}, 0, 0), 1, 1, -1)
	checkNext(t, smoothOf([]int64{1, 3}, 1, -1), 0, -2, 2)
	checkNext(t, smoothOf([]int64{3, 1}, -1, 1), 0, -2, 2)
	checkNext(t, smoothOf([]int64{1, 3}, 2, -2), 0, -1, 1)
	checkNext(t, smoothOf([]int64{4, 1, 9, 6}, -1, -1, 1, 1), 2, 3, 0, -10, 7)
	checkNext(t, smoothOf([]int64{4, 1, 9, 6}, 3, 3, -3, -3), 0, -13, 4, 6, 3)
}

func TestSmoothTiesAtEveryPlace(t *testing.T) {
	for size := 2; size <= impl.MaxCrew; size++ {
		crew := crewOf(size, 7)
		for i := range size {
			for j := i + 1; j < size; j++ {
				for k := j; k < size; k++ {
					// i, j and k have as much as one another, all others less.
					x := smoothOf(crew, make([]int64, size)...)
					top := map[int]int64{i: 1, j: 1, k: 1}
					for at := range size {
						x.Rich[at] = -int64(len(top))
						if top[at] == 1 {
							x.Rich[at] = int64(size - len(top))
						}
					}
					if _, who := impl.SmoothNext(x); who != int64(i) {
						t.Fatalf("SmoothNext(%v) takes %d; want %d", x, who, i)
					}
				}
			}
		}
	}
}

func TestSmoothAtTheLimitsOfRich(t *testing.T) {
	const most = impl.MaxRich
	checkNext(t, smoothOf([]int64{2, 1}, -most, most), 1, 2-most, most-2)
	checkNext(t, smoothOf([]int64{1, 2}, most, -most), 0, most-2, 2-most)
	// Who is taken may have more than MaxRich on the way.
	checkNext(t, smoothOf([]int64{impl.MaxWeight, 1}, most, -most), 0, most-1, 1-most)
	checkNotSmooth(t, smoothOf([]int64{1, 2}, most+1, -most-1))
	checkNotSmooth(t, smoothOf([]int64{1, 2}, -most-1, most+1))

	// One of them alone is past the limit.
	checkNext(t, smoothOf([]int64{1, 2, 1}, most, -most+1, -1), 0, most-3, -most+3, 0)
	checkNotSmooth(t, smoothOf([]int64{1, 2, 1}, most+1, -most, -1))
	checkNext(t, smoothOf([]int64{1, 2, 1}, -most, most-1, 1), 1, -most+1, most-3, 2)
	checkNotSmooth(t, smoothOf([]int64{1, 2, 1}, -most-1, most, 1))
	checkNotSmooth(t, smoothOf([]int64{1, 2, 1}, -1, -most, most+1))
	checkNotSmooth(t, smoothOf([]int64{1, 2, 1}, 1, most, -most-1))
}

func TestSmoothIsNoneTogether(t *testing.T) {
	const most = impl.MaxRich
	for _, crew := range [][]int64{{5, 1, 1}, {impl.MaxWeight, impl.MaxWeight, 1}} {
		for _, rich := range [][]int64{{0, 0, 0}, {-2, 1, 1}, {40, -50, 10}, {most - 1, 1, -most}, {-most + 1, most - 1, 0}} {
			if !impl.SmoothOk(smoothOf(crew, rich...)) {
				t.Errorf("SmoothOk(%v, %v) = false", crew, rich)
			}
			for i := range rich {
				for _, off := range []int64{1, -1} {
					wrong := slices.Clone(rich)
					wrong[i] += off
					checkNotSmooth(t, smoothOf(crew, wrong...))
				}
			}
		}
	}
	// A crew of one has nothing, ever.
	checkNext(t, smoothOf([]int64{9}, 0), 0, 0)
	checkNotSmooth(t, smoothOf([]int64{9}, 1))
	checkNotSmooth(t, smoothOf([]int64{9}, -1))
	checkNotSmooth(t, smoothOf([]int64{9}, 9))
}

func TestSmoothNextThatWouldJustBeRight(t *testing.T) {
	const most = impl.MaxRich
	ones := []int64{1, 1, 1, 1}
	checkNext(t, smoothOf(ones, most, most-1, -most, 1-most), 0, most-3, most, 1-most, 2-most)
	checkNext(t, smoothOf(ones, most-1, most, 1-most, -most), 1, most, most-3, 2-most, 1-most)
	checkNoNext(t, smoothOf(ones, most, most, -most, -most))
	checkNoNext(t, smoothOf(ones, -most, most, -most, most))

	const heavy = impl.MaxWeight
	crew := []int64{1, heavy, 1, 1}
	checkNext(t, smoothOf(crew, most, most-heavy, -most, heavy-most), 0, most-heavy-2, most, 1-most, heavy+1-most)
	checkNoNext(t, smoothOf(crew, most, most-heavy+1, -most, heavy-1-most))
	checkNext(t, smoothOf(crew, most-1, most-heavy+1, -most, heavy-most), 1, most, most-heavy-2, 1-most, heavy+1-most)
	checkNext(t, smoothOf(crew, most-1, most, -most, 1-most), 1, most, most-3, 1-most, 2-most)
	checkNoNext(t, smoothOf(crew, most, most, -most, -most))
}

// lateEnd is right for so many steps and no more: the first one is taken each
// time, and the second one is richer by 1 each time until it is too rich.
func lateEnd(steps int64) impl.Smooth {
	crew := []int64{impl.MaxWeight, 1, 1, 1}
	return smoothOf(crew, impl.MaxRich, impl.MaxRich-steps, -impl.MaxRich, steps-impl.MaxRich)
}

func TestSmoothRunOfWhichALaterStepCannotBeDone(t *testing.T) {
	for _, steps := range []int64{0, 1, 2, 3, 17, impl.MaxSteps - 2, impl.MaxSteps - 1, impl.MaxSteps} {
		x := lateEnd(steps)
		want := smoothOf(x.Crew, impl.MaxRich-3*steps, impl.MaxRich, steps-impl.MaxRich, 2*steps-impl.MaxRich)
		checkRun(t, x, steps, want, make([]int64, steps)...)
		checkNoNext(t, want)
		for _, n := range []int64{steps + 1, steps + 2, impl.MaxSteps} {
			if n > steps {
				checkNoRun(t, x, n)
			}
		}
	}
}

func TestSmoothAtTheLimitsOfTheCrew(t *testing.T) {
	for _, weight := range []int64{1, 2, impl.MaxWeight} {
		checkNext(t, smoothOf([]int64{weight}, 0), 0, 0)
		crew := crewOf(impl.MaxCrew, weight)
		rich := crewOf(impl.MaxCrew, weight)
		rich[0] -= impl.MaxCrew * weight
		checkNext(t, newSmooth(t, crew), 0, rich...)
		last := make([]int64, impl.MaxCrew)
		last[0], last[impl.MaxCrew-1] = -1, 1
		then := crewOf(impl.MaxCrew, weight)
		then[0]--
		then[impl.MaxCrew-1] += 1 - impl.MaxCrew*weight
		checkNext(t, smoothOf(crew, last...), impl.MaxCrew-1, then...)
	}
	checkNotSmooth(t, impl.Smooth{})
	checkNotSmooth(t, smoothOf(crewOf(impl.MaxCrew+1, 1), make([]int64, impl.MaxCrew+1)...))
	checkNotSmooth(t, smoothOf(crewOf(impl.MaxCrew+1, 1), make([]int64, impl.MaxCrew)...))
	checkNotSmooth(t, smoothOf(crewOf(impl.MaxCrew, 1), make([]int64, impl.MaxCrew+1)...))
	checkNotSmooth(t, smoothOf([]int64{0}, 0))
	checkNotSmooth(t, smoothOf([]int64{impl.MaxWeight + 1}, 0))
}

func TestSmoothRunAtTheLimitsOfSteps(t *testing.T) {
	for _, crew := range [][]int64{{4}, {5, 1, 1}, {2, 3}, crewOf(impl.MaxCrew, impl.MaxWeight)} {
		x := newSmooth(t, crew)
		checkRun(t, x, 0, x)
		if then, taken := impl.SmoothRun(x, impl.MaxSteps); len(taken) != impl.MaxSteps || !impl.SmoothOk(then) {
			t.Errorf("SmoothRun(%v, MaxSteps) has %d steps and ends with %v", x, len(taken), then)
		}
		for _, n := range wrongSteps() {
			checkNoRun(t, x, n)
		}
	}
	// No step is asked for, so that none can be done is no matter.
	x := lateEnd(0)
	checkRun(t, x, 0, x)
}

func TestWrongSmooths(t *testing.T) {
	for _, x := range wrongSmooths() {
		checkNotSmooth(t, x)
	}
}

func TestNoNewSmoothOfAWrongCrew(t *testing.T) {
	for _, crew := range wrongCrews() {
		if x, is := impl.NewSmooth(crew); is || !isZeroSmooth(x) {
			t.Errorf("NewSmooth(%v) = %v, %v; want nothing", crew, x, is)
		}
	}
}

func TestSmoothIsByItsWords(t *testing.T) {
	refused := 0
	for _, x := range manySmooths() {
		for range 30 {
			want, taken, right := wantNext(x)
			if !right {
				checkNoNext(t, x)
				refused++
				break
			}
			if got, who := impl.SmoothNext(x); !impl.SmoothOk(x) || who != taken || !sameSmooth(got, want) {
				t.Fatalf("SmoothNext(%v) = %v, %d; want %v, %d", x, got, who, want, taken)
			}
			x = want
		}
	}
	if refused == 0 {
		t.Fatal("no step was asked for that can't be done")
	}
}

func TestTheRichestIsNeverAWholeTurnAhead(t *testing.T) {
	for _, crew := range manyCrews() {
		total := impl.TotalOf(crew)
		counts := make([]int64, len(crew))
		for x, turn := newSmooth(t, crew), 0; turn < 200; turn++ {
			then, who := impl.SmoothNext(x)
			if who < 0 || who >= int64(len(crew)) {
				t.Fatalf("SmoothNext(%v) = %v, %d", x, then, who)
			}
			counts[who]++
			for i := range crew {
				// Rich is how far behind one is, as LagOf tells it.
				if lag, is := impl.LagOf(crew, counts, int64(i)); !is || lag <= -total || lag != then.Rich[i] {
					t.Fatalf("of %v, counts %v: lag of %d is %d, by %d; Rich is %v", crew, counts, i, lag, total, then.Rich)
				}
			}
			x = then
		}
	}
}

func TestBehindTotalTurnsEachHadItsWeight(t *testing.T) {
	crews := append(manyCrews(), []int64{20000, 1}, []int64{1, 9999, 3}, []int64{4096, 4097, 4098, 2}, []int64{impl.MaxSteps}, []int64{impl.MaxSteps - 1, 1}, []int64{1, impl.MaxSteps})
	for _, crew := range crews {
		total := impl.TotalOf(crew)
		if total > 10*impl.MaxSteps {
			continue
		}
		counts := make([]int64, len(crew))
		start := newSmooth(t, crew)
		x := start
		for left := total; left > 0; left -= impl.MaxSteps {
			var taken []int64
			x, taken = impl.SmoothRun(x, min(left, impl.MaxSteps))
			for _, who := range taken {
				counts[who]++
			}
		}
		if !slices.Equal(counts, crew) || !sameSmooth(x, start) {
			t.Fatalf("of %v: behind %d turns they had %v, and it is %v", crew, total, counts, x)
		}
	}
}

func TestSmoothRunInTwoPartsIsOneRun(t *testing.T) {
	for k, x := range manySmooths() {
		n := int64(k%60 + 1)
		whole, taken := impl.SmoothRun(x, n)
		first := n * int64(k%7) / 6
		middle, ahead := impl.SmoothRun(x, first)
		end, behind := impl.SmoothRun(middle, n-first)
		if isZeroSmooth(whole) {
			if !isZeroSmooth(end) || len(behind) != 0 {
				t.Fatalf("SmoothRun(%v, %d) can't be done, but its parts can", x, n)
			}
			continue
		}
		if !sameSmooth(whole, end) || !slices.Equal(taken, slices.Concat(ahead, behind)) {
			t.Fatalf("SmoothRun(%v, %d) = %v, %v; parts of %d and %d: %v, %v and %v", x, n, whole, taken, first, n-first, end, ahead, behind)
		}
	}
}

func TestSmoothRunIsSmoothNextSoOften(t *testing.T) {
	for k, x := range manySmooths() {
		if k%9 != 0 {
			continue
		}
		at, all := x, []int64{}
		for n := range int64(40) {
			if isZeroSmooth(at) {
				checkNoRun(t, x, n)
				continue
			}
			checkRun(t, x, n, at, all...)
			next, who := impl.SmoothNext(at)
			at, all = next, append(all, who)
		}
	}
}

func TestSmoothStaysAsItWas(t *testing.T) {
	late := []impl.Smooth{lateEnd(0), lateEnd(1), lateEnd(2)}
	for _, x := range slices.Concat(manySmooths(), wrongSmooths(), late) {
		crew, rich := withRoom(x.Crew), withRoom(x.Rich)
		allCrew, allRich := slices.Clone(crew[:len(crew)+3]), slices.Clone(rich[:len(rich)+3])
		given := smoothOf(crew, rich...)
		impl.SmoothOk(given)
		impl.NewSmooth(crew)
		impl.SmoothNext(given)
		for _, n := range []int64{-1, 0, 1, 5, impl.MaxSteps + 1} {
			impl.SmoothRun(given, n)
		}
		if !slices.Equal(crew[:len(crew)+3], allCrew) || !slices.Equal(rich[:len(rich)+3], allRich) {
			t.Fatalf("were %v and %v, are %v and %v", allCrew, allRich, crew[:len(crew)+3], rich[:len(rich)+3])
		}
	}
}

// spoil writes into all of a list, and into the room behind it.
func spoil(list []int64) {
	for i := range list[:cap(list)] {
		list[:cap(list)][i] = -5
	}
}

func TestSmoothAnswersAreNewMemory(t *testing.T) {
	for _, x := range manySmooths() {
		answers := map[string]func(impl.Smooth) (impl.Smooth, []int64){
			"new":  func(x impl.Smooth) (impl.Smooth, []int64) { y, _ := impl.NewSmooth(x.Crew); return y, nil },
			"next": func(x impl.Smooth) (impl.Smooth, []int64) { y, _ := impl.SmoothNext(x); return y, nil },
			"run0": func(x impl.Smooth) (impl.Smooth, []int64) { return impl.SmoothRun(x, 0) },
			"run1": func(x impl.Smooth) (impl.Smooth, []int64) { return impl.SmoothRun(x, 1) },
			"run4": func(x impl.Smooth) (impl.Smooth, []int64) { return impl.SmoothRun(x, 4) },
		}
		for name, ask := range answers {
			given := smoothOf(withRoom(x.Crew), withRoom(x.Rich)...)
			want, wantTaken := ask(x)
			want, wantTaken = smoothOf(slices.Clone(want.Crew), slices.Clone(want.Rich)...), slices.Clone(wantTaken)
			got, taken := ask(given)
			// One list of the answer after the other is spoilt; those that come later must be as they were.
			spoil(given.Crew)
			spoil(given.Rich)
			if !sameSmooth(got, want) || !slices.Equal(taken, wantTaken) {
				t.Fatalf("%s of %v: a change of the argument is seen in the answer", name, x)
			}
			given = smoothOf(withRoom(x.Crew), withRoom(x.Rich)...)
			got, taken = ask(given)
			spoil(got.Crew)
			if !slices.Equal(got.Rich, want.Rich) || !slices.Equal(taken, wantTaken) || !sameSmooth(given, x) {
				t.Fatalf("%s of %v: a change of its Crew is seen elsewhere", name, x)
			}
			spoil(got.Rich)
			if !slices.Equal(taken, wantTaken) || !sameSmooth(given, x) {
				t.Fatalf("%s of %v: a change of its Rich is seen elsewhere", name, x)
			}
			spoil(taken)
			if !sameSmooth(given, x) {
				t.Fatalf("%s of %v: a change of who was taken is seen in the argument", name, x)
			}
		}
	}
}
