package tests

import (
	"math"
	"slices"
	"testing"

	"loop.example/g00763/impl"
)

// fit is a list of shares and so many processors on which it fits.
type fit struct {
	list  []impl.Share
	procs int64
}

// partsOf has the shares of one Den.
func partsOf(den int64, nums ...int64) []impl.Share {
	var list []impl.Share
	for _, num := range nums {
		list = append(list, shareOf(num, den))
	}
	return list
}

func manyOf(procs int64, now int64, list []impl.Share, counts ...int64) impl.Many {
	return impl.Many{Shares: list, Counts: counts, Procs: procs, Now: now}
}

func sameMany(a impl.Many, b impl.Many) bool {
	return slices.Equal(a.Shares, b.Shares) && slices.Equal(a.Counts, b.Counts) && a.Procs == b.Procs && a.Now == b.Now
}

func isZeroMany(x impl.Many) bool { return sameMany(x, impl.Many{}) }

func sameTimes(a [][]int64, b [][]int64) bool {
	return slices.EqualFunc(a, b, func(c []int64, d []int64) bool { return slices.Equal(c, d) })
}

// manyCopy shares no memory with what it is of.
func manyCopy(x impl.Many) impl.Many {
	return manyOf(x.Procs, x.Now, slices.Clone(x.Shares), slices.Clone(x.Counts)...)
}

func timesCopy(times [][]int64) [][]int64 {
	own := make([][]int64, len(times))
	for k, taken := range times {
		own[k] = slices.Clone(taken)
	}
	return own
}

// nextTurn is the turn that number i has next.
func nextTurn(x impl.Many, i int64) turn { return turn{x.Shares[i], x.Counts[i] + 1} }

func readyNow(x impl.Many, i int64) bool {
	return x.Counts[i] < impl.MaxTime && x.Counts[i]*x.Shares[i].Den/x.Shares[i].Num <= x.Now
}

// wantReady are all that can be taken, in the order in which they go first.
func wantReady(x impl.Many) []int64 {
	var ready []int64
	for i := range int64(len(x.Shares)) {
		if readyNow(x, i) {
			ready = append(ready, i)
		}
	}
	// A stable sort leaves the lesser number ahead where neither goes ahead.
	slices.SortStableFunc(ready, func(a int64, b int64) int { return int(-wantAhead(nextTurn(x, a), nextTurn(x, b))) })
	return ready
}

// wantTimes is a run that can be done, time by time, by the document's words.
func wantTimes(x impl.Many, n int64) (impl.Many, [][]int64) {
	then, times := manyCopy(x), [][]int64{}
	for range n {
		ready := wantReady(then)
		taken := slices.Sorted(slices.Values(ready[:min(len(ready), int(then.Procs))]))
		for _, who := range taken {
			then.Counts[who]++
		}
		then.Now++
		times = append(times, taken)
	}
	return then, times
}

// checkTaken asks for one time that can be done: alone, and as a run.
func checkTaken(t *testing.T, x impl.Many, taken ...int64) {
	t.Helper()
	want := manyCopy(x)
	want.Now++
	for _, who := range taken {
		want.Counts[who]++
	}
	if !impl.ManyOk(x) || !impl.ManyOk(want) {
		t.Errorf("ManyOk(%v) = %v, ManyOk(%v) = %v", x, impl.ManyOk(x), want, impl.ManyOk(want))
	}
	if got, who := impl.ManyNext(x); !slices.Equal(who, taken) || !sameMany(got, want) {
		t.Errorf("ManyNext(%v) = %v, %v; want %v, %v", x, got, who, want, taken)
	}
	checkManyRun(t, x, 1, want, taken)
}

func checkManyRun(t *testing.T, x impl.Many, n int64, want impl.Many, times ...[]int64) {
	t.Helper()
	if got, who := impl.ManyRun(x, n); !sameTimes(who, times) || !sameMany(got, want) {
		t.Errorf("ManyRun(%v, %d) = %v, %v; want %v, %v", x, n, got, who, want, times)
	}
}

func checkNoManyRun(t *testing.T, x impl.Many, n int64) {
	t.Helper()
	if got, times := impl.ManyRun(x, n); len(times) != 0 || !isZeroMany(got) {
		t.Errorf("ManyRun(%v, %d) = %v, %v; want nothing", x, n, got, times)
	}
}

func checkNoManyNext(t *testing.T, x impl.Many) {
	t.Helper()
	if got, taken := impl.ManyNext(x); len(taken) != 0 || !isZeroMany(got) {
		t.Errorf("ManyNext(%v) = %v, %v; want nothing", x, got, taken)
	}
	for _, n := range []int64{1, 2, 3, impl.MaxSteps} {
		checkNoManyRun(t, x, n)
	}
}

func checkManyLag(t *testing.T, x impl.Many, i int64, want int64) {
	t.Helper()
	if got, is := impl.ManyLag(x, i); !is || got != want {
		t.Errorf("ManyLag(%v, %d) = %d, %v; want %d", x, i, got, is, want)
	}
}

func checkNoManyLag(t *testing.T, x impl.Many, i int64) {
	t.Helper()
	if got, is := impl.ManyLag(x, i); is || got != 0 {
		t.Errorf("ManyLag(%v, %d) = %d, %v; want 0, false", x, i, got, is)
	}
}

func checkNotMany(t *testing.T, x impl.Many) {
	t.Helper()
	if impl.ManyOk(x) {
		t.Errorf("ManyOk(%v) = true", x)
	}
	checkNoManyNext(t, x)
	for _, n := range append(wrongSteps(), 0) {
		checkNoManyRun(t, x, n)
	}
	for _, i := range append(wrongPlaces(len(x.Shares)), 0, 1, int64(len(x.Shares))-1, int64(len(x.Counts))-1) {
		checkNoManyLag(t, x, i)
	}
}

// newMany is of shares that fit.
func newMany(t *testing.T, f fit) impl.Many {
	t.Helper()
	x, is := impl.NewMany(f.list, f.procs)
	if !is || !impl.ManyOk(x) || !sameMany(x, manyOf(f.procs, 0, f.list, make([]int64, len(f.list))...)) {
		t.Fatalf("NewMany(%v, %d) = %v, %v", f.list, f.procs, x, is)
	}
	return x
}

func checkNoNewMany(t *testing.T, list []impl.Share, procs int64) {
	t.Helper()
	if x, is := impl.NewMany(list, procs); is || !isZeroMany(x) {
		t.Errorf("NewMany(%v, %d) = %v, %v; want nothing, false", list, procs, x, is)
	}
}

// checkFromNew runs from the beginning.
func checkFromNew(t *testing.T, f fit, counts []int64, times ...[]int64) {
	t.Helper()
	n := int64(len(times))
	checkManyRun(t, newMany(t, f), n, manyOf(f.procs, n, f.list, counts...), times...)
}

// leastProcs is 0 where the list fits on no number of processors.
func leastProcs(list []impl.Share) int64 {
	for procs := int64(1); procs <= impl.MaxProcs; procs++ {
		if wantFits(list, procs) {
			return procs
		}
	}
	return 0
}

// fallingNums are all lists of so many numbers from least to most that do not rise.
func fallingNums(size int, most int64) [][]int64 {
	if size == 0 {
		return [][]int64{nil}
	}
	var lists [][]int64
	for first := int64(1); first <= most; first++ {
		for _, others := range fallingNums(size-1, first) {
			lists = append(lists, append([]int64{first}, others...))
		}
	}
	return lists
}

// smallFits are all shares of a small Den, whole ones among them, from the heaviest on and
// from the lightest on, on as few processors as they fit on, and on one more.
func smallFits() []fit {
	var list []fit
	for den := int64(2); den <= 7; den++ {
		for size := 0; size <= 5; size++ {
			for _, nums := range fallingNums(size, den) {
				shares := partsOf(den, nums...)
				back := slices.Clone(shares)
				slices.Reverse(back)
				least := leastProcs(shares)
				list = append(list, fit{shares, least}, fit{back, least}, fit{shares, least + 1})
			}
		}
	}
	return list
}

// crewFits are those that crews are given.
func crewFits() []fit {
	var list []fit
	for _, crew := range severalCrews() {
		for procs := int64(1); procs <= impl.MaxProcs; procs++ {
			list = append(list, fit{wantAdjusted(crew, procs), procs})
		}
	}
	return list
}

// otherFits are a fixed sequence of others, of each size and any order: shares of one Den
// beside whole ones of many a Den. Of some all processors are had, of others less.
func otherFits() []fit {
	state := uint64(41)
	next := func(most int64) int64 {
		state = state*6364136223846793005 + 1442695040888963407
		return int64(state>>33)%most + 1
	}
	var list []fit
	for _, most := range []int64{5, 12, 40, 1000, impl.MaxDen - 1} {
		for size := 1; size <= impl.MaxCrew; size++ {
			for range 6 {
				den := next(most) + 1
				room := next(impl.MaxProcs) * den
				var shares []impl.Share
				for len(shares) < size && room > 0 {
					num := min(next(den), room)
					room -= num
					if num == den {
						den := next(most)
						shares = append(shares, shareOf(den, den))
					} else {
						shares = append(shares, shareOf(num, den))
					}
				}
				list = append(list, fit{shares, leastProcs(shares)})
			}
		}
	}
	return list
}

// manyStates are right, and most of them such as no run comes to: near what is fair at
// some time, and far from it, so that many are due at once, not ready, or late.
func manyStates() []impl.Many {
	state := uint64(43)
	next := func(below int64) int64 {
		state = state*6364136223846793005 + 1442695040888963407
		return int64(state>>33) % below
	}
	var list []impl.Many
	for k, f := range slices.Concat(smallFits(), crewFits(), otherFits()) {
		for _, now := range []int64{next(20), next(impl.MaxTime), impl.MaxTime - 1 - next(4)} {
			if k%3 != 0 && now > 20 {
				continue
			}
			off := []int64{1, 2, 3, 9}[next(4)]
			counts := make([]int64, len(f.list))
			for i, s := range f.list {
				counts[i] = min(max(now*s.Num/s.Den+next(2*off+1)-off, 0), impl.MaxTime)
			}
			list = append(list, manyOf(f.procs, now, f.list, counts...))
		}
	}
	return list
}

// wrongManys are not ManyOk, most of them for one reason alone.
func wrongManys() []impl.Many {
	half := shareOf(1, 2)
	list := []impl.Many{
		{},
		manyOf(0, 0, nil),
		manyOf(1, 0, nil, 0),
		manyOf(1, 0, []impl.Share{half}),
		manyOf(1, 0, sharesOf(3, half), 0, 0, 0),
		manyOf(1, 0, partsOf(3, 2, 2), 0, 0),
		manyOf(2, 0, []impl.Share{half, shareOf(1, 3)}, 0, 0),
		manyOf(2, 0, []impl.Share{half, shareOf(2, 4)}, 0, 0),
		manyOf(1, 0, []impl.Share{shareOf(1, 1), half}, 0, 0),
		manyOf(impl.MaxProcs, 0, sharesOf(impl.MaxProcs+1, shareOf(1, 1)), make([]int64, impl.MaxProcs+1)...),
		manyOf(impl.MaxProcs, 0, sharesOf(impl.MaxCrew+1, shareOf(1, 100)), make([]int64, impl.MaxCrew+1)...),
		manyOf(impl.MaxProcs, 0, sharesOf(impl.MaxCrew+1, shareOf(1, 100)), make([]int64, impl.MaxCrew)...),
	}
	for _, procs := range wrongProcs() {
		list = append(list, manyOf(procs, 0, nil), manyOf(procs, 3, []impl.Share{half}, 1), manyOf(procs, 0, sharesOf(impl.MaxCrew, half), make([]int64, impl.MaxCrew)...))
	}
	for _, s := range wrongShares() {
		list = append(list, manyOf(1, 0, []impl.Share{s}, 0), manyOf(impl.MaxProcs, 5, []impl.Share{half, s, half}, 0, 0, 0))
	}
	far := []int64{-1, -2, -impl.MaxTime, -1 << 32, math.MinInt64, math.MinInt64 + 1, impl.MaxTime + 1, impl.MaxTime + 2, 1 << 32, math.MaxInt64 - 1, math.MaxInt64}
	for _, wrong := range far {
		list = append(list,
			manyOf(1, wrong, nil),
			manyOf(1, wrong, []impl.Share{half}, 0),
			manyOf(1, 0, []impl.Share{half}, wrong),
			manyOf(1, wrong, []impl.Share{half}, wrong),
			manyOf(wrong, wrong, []impl.Share{shareOf(wrong, wrong)}, wrong),
			manyOf(2, 7, sharesOf(3, half), wrong, -wrong, 0),
		)
		for i := range impl.MaxCrew {
			counts := crewOf(impl.MaxCrew, 5)
			counts[i] = wrong
			list = append(list, manyOf(3, 100, sharesOf(impl.MaxCrew, shareOf(1, 10)), counts...))
		}
	}
	for size := 1; size <= impl.MaxCrew; size++ {
		shares := sharesOf(size, shareOf(1, impl.MaxCrew))
		for _, other := range []int{0, size - 1, size + 1, 2 * size, impl.MaxCrew + 1} {
			list = append(list, manyOf(1, 0, shares, make([]int64, other)...))
		}
		list = append(list, manyOf(1, 0, nil, make([]int64, size)...), manyOf(1, 0, shares, make([]int64, 2*size)[:size-1]...))
	}
	return list
}

func TestManyOrdinary(t *testing.T) {
	one, half := shareOf(1, 1), shareOf(1, 2)
	at := func(numbers ...int64) []int64 { return numbers }
	checkFromNew(t, fit{[]impl.Share{one, half, half}, 2}, at(4, 2, 2), at(0, 1), at(0, 2), at(0, 1), at(0, 2))
	checkFromNew(t, fit{sharesOf(3, shareOf(2, 3)), 2}, at(4, 4, 4), at(0, 1), at(0, 2), at(1, 2), at(0, 1), at(0, 2), at(1, 2))
	// Due at 2 and 3, then both at 3, then the first one is not ready.
	checkFromNew(t, fit{partsOf(3, 2, 1), 1}, at(4, 2), at(0), at(0), at(1), at(0), at(0), at(1))
	// Ready at 0; 0 and 3; 0, 2 and 4; due at 6; 3 and 6; 2, 4 and 6.
	checkFromNew(t, fit{partsOf(6, 1, 2, 3), 1}, at(1, 2, 3), at(2), at(1), at(2), at(0), at(1), at(2))
	// Just one that is alone: ready at 0, 2, 4, 7.
	checkFromNew(t, fit{partsOf(7, 3), 1}, at(4), at(0), at(), at(0), at(), at(0), at(), at(), at(0))
	checkFromNew(t, fit{[]impl.Share{one, shareOf(2, 2), shareOf(5, 5)}, 4}, at(3, 3, 3), at(0, 1, 2), at(0, 1, 2), at(0, 1, 2))
	checkFromNew(t, fit{nil, 3}, nil, at(), at(), at())
	// By hand of the shares that a crew is given: 1 of 2, a whole one, 1 of 2.
	checkFromNew(t, fit{impl.Adjusted([]int64{1, 10, 1}, 2), 2}, at(2, 4, 2), at(0, 1), at(1, 2), at(0, 1), at(1, 2))
}

func TestManyLagOrdinary(t *testing.T) {
	x := manyOf(2, 3, []impl.Share{shareOf(1, 1), shareOf(1, 2), shareOf(1, 2)}, 3, 2, 1)
	checkManyLag(t, x, 0, 0)
	checkManyLag(t, x, 1, -1)
	checkManyLag(t, x, 2, 1)
	checkNoManyLag(t, x, -1)
	checkNoManyLag(t, x, 3)
	// It is told of whatever is right, be it whole turns ahead or behind.
	x = manyOf(1, 10, partsOf(7, 3, 4), 0, 9)
	checkManyLag(t, x, 0, 30)
	checkManyLag(t, x, 1, 40-63)
	x = manyOf(2, 10, []impl.Share{shareOf(5, 5), shareOf(3, 3)}, 8, 11)
	checkManyLag(t, x, 0, 10)
	checkManyLag(t, x, 1, -3)
}

func TestManyDueEarlierGoesFirst(t *testing.T) {
	checkTaken(t, manyOf(1, 0, partsOf(6, 1, 2, 3), 0, 0, 0), 2) // due at 6, 3, 2
	checkTaken(t, manyOf(1, 0, partsOf(6, 3, 2, 1), 0, 0, 0), 0)
	checkTaken(t, manyOf(1, 0, partsOf(6, 2, 3, 1), 0, 0, 0), 1)
	checkTaken(t, manyOf(2, 0, partsOf(6, 1, 2, 3), 0, 0, 0), 1, 2)
	checkTaken(t, manyOf(3, 0, partsOf(6, 1, 2, 3), 0, 0, 0), 0, 1, 2)
	checkTaken(t, manyOf(8, 0, partsOf(6, 1, 2, 3), 0, 0, 0), 0, 1, 2)
	// Who is late was due earlier, though its share is less.
	checkTaken(t, manyOf(1, 7, partsOf(6, 1, 2, 3), 0, 2, 3), 0)
	checkTaken(t, manyOf(2, 7, partsOf(6, 1, 2, 3), 0, 2, 3), 0, 2)
	// Whether it overlaps does not count then: due at 2, no; at 3, yes.
	checkTaken(t, manyOf(1, 0, partsOf(12, 5, 6), 0, 0), 1)
	checkTaken(t, manyOf(1, 0, partsOf(12, 6, 5), 0, 0), 0)
	// A whole one is due at once, wherever it stands.
	checkTaken(t, manyOf(2, 0, []impl.Share{shareOf(9, 10), shareOf(1, 10), shareOf(1, 1)}, 0, 0, 0), 0, 2)
	checkTaken(t, manyOf(2, 0, []impl.Share{shareOf(1, 1), shareOf(1, 10), shareOf(9, 10)}, 0, 0, 0), 0, 2)
}

func TestManyOfThoseDueAtOnceOneThatOverlapsGoesFirst(t *testing.T) {
	// Due at 3 both: 4 of 12 just then, 5 of 12 on the way.
	checkTaken(t, manyOf(1, 0, partsOf(12, 4, 5), 0, 0), 1)
	checkTaken(t, manyOf(1, 0, partsOf(12, 5, 4), 0, 0), 0)
	checkTaken(t, manyOf(1, 0, partsOf(12, 3, 4, 5), 0, 0, 0), 2)
	checkTaken(t, manyOf(2, 0, partsOf(12, 4, 4, 5, 4), 0, 0, 0, 0), 0, 2)
	checkTaken(t, manyOf(2, 0, partsOf(12, 4, 4, 4, 5), 0, 0, 0, 0), 0, 3)
	checkTaken(t, manyOf(2, 0, partsOf(12, 4, 5, 4, 5), 0, 0, 0, 0), 1, 3)
	checkTaken(t, manyOf(3, 0, partsOf(12, 4, 5, 4, 5), 0, 0, 0, 0), 0, 1, 3)
	checkTaken(t, manyOf(2, 0, []impl.Share{shareOf(4, 12), shareOf(1, 1), shareOf(5, 12)}, 0, 0, 0), 1, 2)
	// At 2: 3 of 6 does not overlap, the others do.
	checkTaken(t, manyOf(2, 0, partsOf(6, 3, 4, 5), 0, 0, 0), 1, 2)
	checkTaken(t, manyOf(2, 0, partsOf(6, 4, 3, 5), 0, 0, 0), 0, 2)
	checkTaken(t, manyOf(2, 0, partsOf(6, 5, 4, 3), 0, 0, 0), 0, 1)
}

func TestManyOfThoseThatOverlapWhoseChainEndsLaterGoesFirst(t *testing.T) {
	// Due at 2, chains to 3, 4 and 4.
	checkTaken(t, manyOf(2, 0, partsOf(10, 6, 7, 7), 0, 0, 0), 1, 2)
	checkTaken(t, manyOf(2, 0, partsOf(10, 7, 6, 7), 0, 0, 0), 0, 2)
	checkTaken(t, manyOf(2, 0, partsOf(10, 7, 7, 6), 0, 0, 0), 0, 1)
	// To 3, 3 and 5: of the first two the lesser number.
	checkTaken(t, manyOf(2, 0, partsOf(30, 16, 18, 24), 0, 0, 0), 0, 2)
	checkTaken(t, manyOf(2, 0, partsOf(30, 18, 16, 24), 0, 0, 0), 0, 2)
	checkTaken(t, manyOf(2, 0, partsOf(30, 16, 24, 18), 0, 0, 0), 0, 1)
	checkTaken(t, manyOf(2, 0, partsOf(30, 24, 16, 18), 0, 0, 0), 0, 1)
	// Due at 3: a light one that overlaps has no chain, the second turn of the heavy one has.
	checkTaken(t, manyOf(2, 1, partsOf(7, 3, 3, 5), 0, 0, 1), 0, 2)
	checkTaken(t, manyOf(2, 1, partsOf(12, 5, 9, 9), 0, 1, 1), 1, 2)
	checkTaken(t, manyOf(2, 1, partsOf(12, 9, 5, 9), 1, 0, 1), 0, 2)
	checkTaken(t, manyOf(2, 1, partsOf(12, 9, 5, 9), 1, 0, 2), 0, 1) // the last one is ready at 2
}

func TestManyWhereNeitherGoesAheadTheLesserNumberDoes(t *testing.T) {
	at := func(numbers ...int64) []int64 { return numbers }
	third := sharesOf(5, shareOf(1, 3))
	checkFromNew(t, fit{third, 2}, at(2, 2, 2, 2, 1), at(0, 1), at(2, 3), at(4), at(0, 1), at(2, 3))
	checkFromNew(t, fit{third, 3}, at(2, 2, 2, 1, 1), at(0, 1, 2), at(3, 4), at(), at(0, 1, 2))
	// Unlike shares: 1 of 6, 2 of 6 and 3 of 6 are all due at 6, and none of them overlaps.
	checkTaken(t, manyOf(1, 4, partsOf(6, 1, 2, 3), 0, 1, 2), 0)
	checkTaken(t, manyOf(1, 4, partsOf(6, 3, 2, 1), 2, 1, 0), 0)
	checkTaken(t, manyOf(2, 4, partsOf(6, 2, 1, 3), 1, 0, 2), 0, 1)
	checkTaken(t, manyOf(1, 3, partsOf(6, 3, 2, 1), 2, 1, 0), 1) // the first one is ready at 4
	// Light ones that overlap, of unlike shares: due at 4, without a chain.
	checkTaken(t, manyOf(1, 0, partsOf(20, 6, 5, 6), 0, 0, 0), 0)
	checkTaken(t, manyOf(1, 0, partsOf(40, 11, 13, 12), 0, 0, 0), 0)
	checkTaken(t, manyOf(1, 0, partsOf(40, 13, 12, 11), 0, 0, 0), 0)
	checkTaken(t, manyOf(2, 0, partsOf(40, 10, 13, 12, 11), 0, 0, 0, 0), 1, 2)
}

func TestManyTiesAtEveryPlace(t *testing.T) {
	for size := 1; size <= impl.MaxCrew; size++ {
		for procs := int64(1); procs <= impl.MaxProcs; procs++ {
			for from := range size {
				// All from that one on had one turn less.
				counts := crewOf(size, 3)
				var want []int64
				for i := from; i < size; i++ {
					counts[i] = 2
					if int64(len(want)) < procs {
						want = append(want, int64(i))
					}
				}
				x := manyOf(procs, 71, sharesOf(size, shareOf(1, impl.MaxCrew)), counts...)
				if got, taken := impl.ManyNext(x); !slices.Equal(taken, want) || got.Now != 72 {
					t.Fatalf("ManyNext(%v) = %v, %v; want %v", x, got, taken, want)
				}
			}
		}
	}
}

func TestManyTheOneThatGoesAheadAtEveryPlace(t *testing.T) {
	for size := 2; size <= impl.MaxCrew; size++ {
		for place := range size {
			for procs := int64(1); procs <= min(impl.MaxProcs, int64(size)-1); procs++ {
				// It alone is late, and the others are due at once.
				counts := crewOf(size, 1)
				counts[place] = 0
				want := []int64{int64(place)}
				for i := int64(0); int64(len(want)) < procs; i++ {
					if i != int64(place) {
						want = append(want, i)
					}
				}
				slices.Sort(want)
				checkTaken(t, manyOf(procs, 30, sharesOf(size, shareOf(1, impl.MaxCrew)), counts...), want...)
			}
		}
	}
}

func TestManyWhoWasTakenRises(t *testing.T) {
	// The greater the number, the earlier it is due.
	nums := make([]int64, impl.MaxCrew)
	for i := range nums {
		nums[i] = int64(i + 1)
	}
	x := manyOf(impl.MaxProcs, 0, partsOf(1000, nums...), make([]int64, impl.MaxCrew)...)
	checkTaken(t, x, 16, 17, 18, 19, 20, 21, 22, 23)
	x.Procs = 3
	checkTaken(t, x, 21, 22, 23)
	// So that AheadOf puts all of those that are taken in falling order, and in another one.
	checkTaken(t, manyOf(3, 0, partsOf(6, 1, 2, 3, 4), 0, 0, 0, 0), 1, 2, 3)
	checkTaken(t, manyOf(3, 0, partsOf(6, 2, 4, 1, 5), 0, 0, 0, 0), 0, 1, 3)
	checkTaken(t, manyOf(2, 0, partsOf(6, 3, 4, 5), 0, 0, 0), 1, 2) // the chain of the last one ends later
	fell := 0
	for _, x := range manyStates() {
		_, taken := impl.ManyNext(x)
		for k := 1; k < len(taken); k++ {
			if taken[k] <= taken[k-1] {
				t.Fatalf("ManyNext(%v) takes %v", x, taken)
			}
		}
		if first := wantReady(x); !slices.IsSorted(first[:min(len(first), len(taken))]) {
			fell++
		}
	}
	if fell == 0 {
		t.Fatal("those who go first never came in another order than by their numbers")
	}
}

func TestManyWhoIsNotReadyIsPassedOver(t *testing.T) {
	// Ready at 0, 2, 4, 7, 9, 11, 14.
	for _, ready := range []struct{ count, now int64 }{{1, 2}, {2, 4}, {3, 7}, {4, 9}, {5, 11}, {6, 14}} {
		x := manyOf(1, ready.now, partsOf(7, 3), ready.count)
		checkTaken(t, x, 0)
		x.Now--
		checkTaken(t, x)
		x.Now += 2
		checkTaken(t, x, 0)
	}
	// Due at 2, 4 and 6 as the second one is; at 1 and 3 the first one is not ready.
	checkTaken(t, manyOf(1, 1, partsOf(6, 3, 1), 1, 0), 1)
	checkTaken(t, manyOf(1, 2, partsOf(6, 3, 1), 1, 0), 0)
	checkTaken(t, manyOf(1, 3, partsOf(6, 3, 1), 2, 0), 1)
	checkTaken(t, manyOf(2, 3, partsOf(6, 3, 1), 2, 0), 1)
	checkTaken(t, manyOf(2, 4, partsOf(6, 3, 1), 2, 0), 0, 1)
	// Nobody is: processors are idle, though some are due soon.
	checkTaken(t, manyOf(3, 1, partsOf(6, 3, 1, 2), 1, 1, 1))
	checkTaken(t, manyOf(3, 2, partsOf(6, 3, 1, 2), 1, 1, 1), 0)
	checkTaken(t, manyOf(3, 3, partsOf(6, 3, 1, 2), 1, 1, 1), 0, 2)
	checkTaken(t, manyOf(3, 0, partsOf(6, 3, 1, 2), impl.MaxTime, 5, 9))
	// A light one that had its first turn waits for long.
	light := manyOf(1, 0, partsOf(impl.MaxDen, 101), 0)
	checkTaken(t, light, 0)
	light.Counts[0] = 1
	light.Now = 990098
	checkTaken(t, light)
	light.Now = 990099
	checkTaken(t, light, 0)
}

func TestManyWholeOnesBesideOthers(t *testing.T) {
	one := shareOf(1, 1)
	at := func(numbers ...int64) []int64 { return numbers }
	checkFromNew(t, fit{[]impl.Share{shareOf(1, 3), shareOf(7, 7), shareOf(2, 3), one}, 3}, at(1, 3, 2, 3), at(1, 2, 3), at(0, 1, 3), at(1, 2, 3))
	checkFromNew(t, fit{[]impl.Share{one, shareOf(1, 3)}, 2}, at(4, 2), at(0, 1), at(0), at(0), at(0, 1))
	// A whole one that is late is not taken twice at once; one that is early waits.
	checkTaken(t, manyOf(4, 9, []impl.Share{one, one}, 2, 9), 0, 1)
	checkTaken(t, manyOf(4, 9, []impl.Share{one, one}, 10, 9), 1)
	checkTaken(t, manyOf(4, 9, []impl.Share{one, one}, 10, 10))
	// Others that are later still go ahead of it.
	checkTaken(t, manyOf(2, 9, []impl.Share{one, shareOf(1, 3), shareOf(2, 3)}, 9, 0, 0), 1, 2)
	checkTaken(t, manyOf(2, 9, []impl.Share{one, shareOf(1, 3), shareOf(2, 3)}, 9, 3, 6), 0, 2)
	for whole := range impl.MaxProcs + 1 {
		list := append(sharesOf(whole, one), sharesOf(2, shareOf(1, 2))...)
		if whole == impl.MaxProcs {
			list = list[:whole]
		}
		x := newMany(t, fit{list, leastProcs(list)})
		want, times := wantTimes(x, 20)
		checkManyRun(t, x, 20, want, times...)
		for i := range int64(whole) {
			if want.Counts[i] != 20 {
				t.Fatalf("%v: a whole one had not every turn", want)
			}
		}
	}
}

func TestManyOfNobody(t *testing.T) {
	for procs := int64(1); procs <= impl.MaxProcs; procs++ {
		x := newMany(t, fit{nil, procs})
		checkTaken(t, x)
		then, times := impl.ManyRun(x, impl.MaxSteps)
		if then.Now != impl.MaxSteps || len(times) != impl.MaxSteps || len(slices.Concat(times...)) != 0 || then.Procs != procs {
			t.Errorf("ManyRun(%v, MaxSteps) = %v with %d times", x, then, len(times))
		}
		for _, i := range []int64{-1, 0, 1, math.MinInt64, math.MaxInt64} {
			checkNoManyLag(t, x, i)
		}
		checkTaken(t, manyOf(procs, impl.MaxTime-1, []impl.Share{}))
		checkNoManyNext(t, manyOf(procs, impl.MaxTime, []impl.Share{}))
	}
}

func TestManyAtTheLimitsOfTheShares(t *testing.T) {
	const most = impl.MaxDen
	checkTaken(t, newMany(t, fit{partsOf(most, 1), 1}), 0)
	checkTaken(t, newMany(t, fit{partsOf(most, 1, most-1), 1}), 1)
	checkTaken(t, newMany(t, fit{partsOf(most, most), 1}), 0)
	checkTaken(t, newMany(t, fit{[]impl.Share{shareOf(1, 1)}, impl.MaxProcs}), 0)
	checkNoNewMany(t, partsOf(most+1, 1), 1)
	checkNoNewMany(t, partsOf(most+1, most+1), 1)
	checkNoNewMany(t, partsOf(7, 0), 1)
	checkNoNewMany(t, partsOf(7, 8), impl.MaxProcs)
	// As many as there may be, on as few and as many processors as there may be.
	full := sharesOf(impl.MaxCrew, shareOf(1, impl.MaxCrew))
	checkTaken(t, newMany(t, fit{full, 1}), 0)
	checkTaken(t, newMany(t, fit{full, impl.MaxProcs}), 0, 1, 2, 3, 4, 5, 6, 7)
	checkTaken(t, newMany(t, fit{sharesOf(impl.MaxCrew, shareOf(1, 3)), impl.MaxProcs}), 0, 1, 2, 3, 4, 5, 6, 7)
	checkTaken(t, newMany(t, fit{sharesOf(impl.MaxProcs, shareOf(1, 1)), impl.MaxProcs}), 0, 1, 2, 3, 4, 5, 6, 7)
	for procs := int64(1); procs <= impl.MaxProcs; procs++ {
		checkNoNewMany(t, sharesOf(impl.MaxCrew+1, shareOf(1, 100)), procs)
		checkNoNewMany(t, sharesOf(impl.MaxProcs+1, shareOf(1, 1)), procs)
		checkNoNewMany(t, []impl.Share{shareOf(1, 2), shareOf(1, 3)}, procs)
		// Just full, one processor less, and one share more.
		halves := sharesOf(int(2*procs), shareOf(1, 2))
		newMany(t, fit{halves, procs})
		checkNoNewMany(t, halves, procs-1)
		checkNoNewMany(t, append(halves, shareOf(1, 2)), procs)
		checkNotMany(t, manyOf(procs-1, 0, halves, make([]int64, 2*procs)...))
		checkNotMany(t, manyOf(procs, 0, append(halves, shareOf(1, 2)), make([]int64, 2*procs+1)...))
	}
	for _, procs := range wrongProcs() {
		for _, list := range [][]impl.Share{nil, {}, {shareOf(1, 1)}, partsOf(6, 1, 2), full} {
			checkNoNewMany(t, list, procs)
		}
	}
	for _, s := range wrongShares() {
		for procs := int64(0); procs <= impl.MaxProcs+1; procs++ {
			checkNoNewMany(t, []impl.Share{s}, procs)
			checkNoNewMany(t, []impl.Share{shareOf(1, 9), s, shareOf(1, 1)}, procs)
		}
	}
}

func TestManyAtTheLimitsOfTheCounts(t *testing.T) {
	const most = impl.MaxTime
	half := sharesOf(4, shareOf(1, 2))
	// Who had all turns there are is passed over, wherever it stands.
	checkTaken(t, manyOf(2, 5, half, most, 0, 0, 0), 1, 2)
	checkTaken(t, manyOf(2, 5, half, 0, most, 0, 0), 0, 2)
	checkTaken(t, manyOf(2, 5, half, most, most, most, 0), 3)
	checkTaken(t, manyOf(2, 5, half, most, most, most, most))
	whole := sharesOf(3, shareOf(1, 1))
	checkTaken(t, manyOf(3, most-1, whole, most, most-1, most-2), 1, 2)
	checkTaken(t, manyOf(3, most-1, whole, most-1, most, 0), 0, 2)
	checkTaken(t, manyOf(3, most-1, whole, most, most, most))
	checkTaken(t, manyOf(3, most-2, whole, most-1, most-2, most), 1)
	// Its last turn but one, its last one, and no more.
	x := manyOf(3, most-3, whole, most-3, most-1, most)
	checkManyRun(t, x, 3, manyOf(3, most, whole, most, most, most), []int64{0}, []int64{0}, []int64{0, 1})
	for i := range impl.MaxCrew {
		list, counts := sharesOf(impl.MaxCrew, shareOf(1, 1000)), make([]int64, impl.MaxCrew)
		counts[i] = most
		if x := manyOf(1, most-1, list, counts...); !impl.ManyOk(x) {
			t.Errorf("ManyOk(%v) = false", x)
		}
		for _, wrong := range []int64{most + 1, -1} {
			counts := slices.Clone(counts)
			counts[i] = wrong
			checkNotMany(t, manyOf(1, most-1, list, counts...))
		}
	}
	// Each one may have had so many: only a crew's counts are held to a limit together.
	if x := manyOf(2, 0, half, most, most, most, most); !impl.ManyOk(x) {
		t.Errorf("ManyOk(%v) = false", x)
	}
}

func TestManyAtTheLimitsOfNow(t *testing.T) {
	const most = impl.MaxTime
	for _, f := range []fit{{nil, 1}, {partsOf(3, 1), 1}, {sharesOf(3, shareOf(1, 1)), 3}, {sharesOf(impl.MaxCrew, shareOf(1, 3)), impl.MaxProcs}} {
		counts := make([]int64, len(f.list))
		x := manyOf(f.procs, most, f.list, counts...)
		if !impl.ManyOk(x) {
			t.Errorf("ManyOk(%v) = false", x)
		}
		// There is no time behind it, and a run of none asks for none.
		checkNoManyNext(t, x)
		checkManyRun(t, x, 0, x)
		for i, s := range f.list {
			checkManyLag(t, x, int64(i), s.Num*most)
		}
		for _, room := range []int64{1, 2, 17, impl.MaxSteps - 1} {
			x.Now = most - room
			want, times := wantTimes(x, room)
			checkManyRun(t, x, room, want, times...)
			for _, n := range []int64{room + 1, room + 2, impl.MaxSteps, impl.MaxSteps + 1} {
				checkNoManyRun(t, x, n)
			}
		}
		x.Now = most - impl.MaxSteps
		want, times := wantTimes(x, impl.MaxSteps)
		checkManyRun(t, x, impl.MaxSteps, want, times...)
		for _, now := range []int64{-1, most + 1, -most, math.MinInt64, math.MaxInt64, math.MaxInt64 - impl.MaxSteps} {
			x.Now = now
			checkNotMany(t, x)
		}
	}
}

func TestManyRunAtTheLimitsOfSteps(t *testing.T) {
	for _, f := range []fit{{nil, 2}, {partsOf(3, 2, 1), 1}, {partsOf(10, 6, 7, 7), 2}, {[]impl.Share{shareOf(1, 1), shareOf(1, 4)}, 3}, {sharesOf(impl.MaxCrew, shareOf(1, 3)), 8}} {
		x := newMany(t, f)
		checkManyRun(t, x, 0, x)
		for _, n := range []int64{impl.MaxSteps - 1, impl.MaxSteps} {
			want, times := wantTimes(x, n)
			checkManyRun(t, x, n, want, times...)
		}
		for _, n := range wrongSteps() {
			checkNoManyRun(t, x, n)
			checkNoManyRun(t, manyOf(f.procs, impl.MaxTime, f.list, x.Counts...), n)
		}
	}
	for k, x := range manyStates() {
		if k%10 == 0 {
			checkManyRun(t, x, 0, x)
		}
	}
}

func TestManyLagAtTheLimits(t *testing.T) {
	const den, most = impl.MaxDen, impl.MaxTime
	for size := 1; size <= impl.MaxCrew; size++ {
		counts := make([]int64, size)
		for i := range counts {
			counts[i] = int64(i * i)
		}
		x := manyOf(1, 1000, sharesOf(size, shareOf(2, 2*impl.MaxCrew)), counts...)
		for i := range int64(size) {
			checkManyLag(t, x, i, 2000-2*impl.MaxCrew*i*i)
		}
		for _, i := range []int64{-1, int64(size), -int64(size), impl.MaxCrew, 1 << 32, -1 << 32, math.MinInt64, math.MinInt64 + 1, math.MaxInt64 - 1, math.MaxInt64} {
			checkNoManyLag(t, x, i)
		}
	}
	x := manyOf(3, most, []impl.Share{shareOf(den-1, den), shareOf(1, den), shareOf(den, den), shareOf(1, 1)}, 0, most, most, 0)
	checkManyLag(t, x, 0, (den-1)*most)
	checkManyLag(t, x, 1, most-den*most)
	checkManyLag(t, x, 2, 0)
	checkManyLag(t, x, 3, most)
	x.Now, x.Counts = 0, []int64{0, 1, most, most}
	for i, want := range []int64{0, -den, -den * most, -most} {
		checkManyLag(t, x, int64(i), want)
	}
}

func TestWrongManys(t *testing.T) {
	for _, x := range wrongManys() {
		checkNotMany(t, x)
		if !wantFits(x.Shares, x.Procs) {
			checkNoNewMany(t, x.Shares, x.Procs)
		}
	}
}

// tellTaken tells what decided between the last one that is taken and the first one that
// has to wait, and whether somebody who is not ready would have gone ahead of one that is taken.
func tellTaken(x impl.Many, told map[string]int) {
	ready := wantReady(x)
	taken := ready[:min(len(ready), int(x.Procs))]
	switch {
	case len(taken) == 0:
		told["nobody"]++
		return
	case int64(len(ready)) < x.Procs:
		told["fewer"]++
	case int64(len(ready)) == x.Procs:
		told["just as many"]++
	default:
		in, out := taken[len(taken)-1], ready[len(taken)]
		told[whatDecides(nextTurn(x, in), nextTurn(x, out))]++
		if in > out {
			told["the greater number"]++
		}
	}
	last := nextTurn(x, taken[len(taken)-1])
	for i := range int64(len(x.Shares)) {
		if readyNow(x, i) || x.Counts[i] == impl.MaxTime {
			continue
		}
		if wantAhead(nextTurn(x, i), last) == 1 {
			told["not ready"]++
		}
		if x.Counts[i]*x.Shares[i].Den/x.Shares[i].Num == x.Now+1 {
			told["just not ready"]++
		}
	}
}

func whatDecides(in turn, out turn) string {
	inDue, inOverlaps, inEnd := wantRank(in)
	outDue, outOverlaps, outEnd := wantRank(out)
	switch {
	case inDue != outDue:
		return "due"
	case inOverlaps != outOverlaps:
		return "overlaps"
	case inOverlaps == 0 && inEnd != outEnd:
		return "neither overlaps, chains unlike"
	case inEnd == outEnd:
		return "number"
	case outEnd == 0:
		return "chain and none"
	}
	return "chains"
}

func TestManyIsByItsWords(t *testing.T) {
	told := map[string]int{}
	for _, x := range manyStates() {
		tellTaken(x, told)
		want, times := wantTimes(x, 1)
		if got, taken := impl.ManyNext(x); !impl.ManyOk(x) || !sameMany(got, want) || !slices.Equal(taken, times[0]) {
			t.Fatalf("ManyNext(%v) = %v, %v; want %v, %v", x, got, taken, want, times[0])
		}
		for i, s := range x.Shares {
			if lag, is := impl.ManyLag(x, int64(i)); !is || lag != s.Num*x.Now-s.Den*x.Counts[i] {
				t.Fatalf("ManyLag(%v, %d) = %d, %v", x, i, lag, is)
			}
		}
	}
	// Each of these has to come about somewhere here, or it would not be tested.
	for _, rule := range []string{
		"nobody", "fewer", "just as many", "due", "overlaps", "neither overlaps, chains unlike",
		"number", "chain and none", "chains", "the greater number", "not ready", "just not ready",
	} {
		if told[rule] < 20 {
			t.Errorf("%q came about %d times", rule, told[rule])
		}
	}
}

func TestManyRunIsByItsWords(t *testing.T) {
	fits := slices.Concat(smallFits(), crewFits(), otherFits())
	for k, f := range fits {
		if k%7 != 0 {
			continue
		}
		x := newMany(t, f)
		n := int64(k%90 + 1)
		want, times := wantTimes(x, n)
		if got, who := impl.ManyRun(x, n); !sameMany(got, want) || !sameTimes(who, times) {
			t.Fatalf("ManyRun(%v, %d) = %v, %v; want %v, %v", x, n, got, who, want, times)
		}
	}
}

// allProcs tells whether all shares together are all processors.
func allProcs(f fit) bool {
	whole, nums, den := int64(0), int64(0), int64(1)
	for _, s := range f.list {
		if s.Num == s.Den {
			whole++
		} else {
			nums, den = nums+s.Num, s.Den
		}
	}
	return whole*den+nums == f.procs*den
}

// checkNeverAWholeTurnOnSeveral runs from the beginning for so many times, and holds behind
// each one of them that nobody is a whole turn ahead or behind, that no more are taken than
// there are processors, and that none of these is idle where all of them are had.
func checkNeverAWholeTurnOnSeveral(t *testing.T, f fit, turns int64) {
	t.Helper()
	x, all := newMany(t, f), allProcs(f)
	lags := make([]int64, len(f.list))
	for left := turns; left > 0; left -= impl.MaxSteps {
		n := min(left, impl.MaxSteps)
		then, times := impl.ManyRun(x, n)
		if int64(len(times)) != n || then.Now != x.Now+n || !impl.ManyOk(then) {
			t.Fatalf("ManyRun(%v, %d) = %v with %d times", x, n, then, len(times))
		}
		for k, taken := range times {
			if int64(len(taken)) > f.procs || all && int64(len(taken)) < f.procs {
				t.Fatalf("of %v: %v are taken at %d on %d", f.list, taken, x.Now+int64(k), f.procs)
			}
			for i, s := range f.list {
				lags[i] += s.Num
			}
			for _, who := range taken {
				lags[who] -= f.list[who].Den
			}
			for i, s := range f.list {
				if lags[i] <= -s.Den || lags[i] >= s.Den {
					t.Fatalf("of %v on %d, behind %d times: the lag of %d is %d of %d", f.list, f.procs, x.Now+int64(k)+1, i, lags[i], s.Den)
				}
			}
		}
		for i := range f.list {
			checkManyLag(t, then, int64(i), lags[i])
		}
		x = then
	}
}

func TestNeverAWholeTurnOnSeveralOfSmallShares(t *testing.T) {
	for _, f := range smallFits() {
		checkNeverAWholeTurnOnSeveral(t, f, 16)
	}
	// More of them, of which all processors are had: the rules for what is due at once are needed here.
	for _, den := range []int64{4, 5, 6, 7} {
		for size := 6; size <= 8; size++ {
			for _, nums := range fallingNums(size, den-1) {
				if turnsOf(nums)%den != 0 {
					continue
				}
				list := partsOf(den, nums...)
				f := fit{list, turnsOf(nums) / den}
				checkNeverAWholeTurnOnSeveral(t, f, den+1)
				slices.Reverse(list)
				checkNeverAWholeTurnOnSeveral(t, f, den+1)
			}
		}
	}
}

func TestNeverAWholeTurnOnSeveralOfCrews(t *testing.T) {
	for k, f := range crewFits() {
		turns := int64(25)
		if k%41 == 0 {
			turns = 700
		}
		checkNeverAWholeTurnOnSeveral(t, f, turns)
	}
}

func TestNeverAWholeTurnOnSeveralOfOtherShares(t *testing.T) {
	for _, f := range otherFits() {
		checkNeverAWholeTurnOnSeveral(t, f, 300)
	}
	// Heavy ones that push one another far.
	for den := int64(9); den <= 30; den++ {
		for procs := int64(2); procs <= impl.MaxProcs; procs++ {
			nums := crewOf(int(procs)+1, procs*den/(procs+1))
			for i := range procs * den % (procs + 1) {
				nums[i]++
			}
			checkNeverAWholeTurnOnSeveral(t, fit{partsOf(den, nums...), procs}, 2*den+1)
			slices.Reverse(nums)
			checkNeverAWholeTurnOnSeveral(t, fit{partsOf(den, nums...), procs}, 2*den+1)
		}
	}
}

func TestNeverAWholeTurnOnSeveralEver(t *testing.T) {
	const most = impl.MaxTime
	checkNeverAWholeTurnOnSeveral(t, fit{impl.Adjusted([]int64{3, 2}, 1), 1}, most)
	checkNeverAWholeTurnOnSeveral(t, fit{impl.Adjusted([]int64{999983, 999979, 2}, 2), 2}, most)
	checkNeverAWholeTurnOnSeveral(t, fit{impl.Adjusted([]int64{1, impl.MaxWeight, 3, 500000}, 2), 2}, most)
	checkNeverAWholeTurnOnSeveral(t, fit{partsOf(impl.MaxDen, impl.MaxDen-1, impl.MaxDen-2, 3, 1), 3}, most)
	crew := make([]int64, impl.MaxCrew)
	for i := range crew {
		crew[i] = int64(i*i*i + 977*i + 1)
	}
	checkNeverAWholeTurnOnSeveral(t, fit{impl.Adjusted(crew, impl.MaxProcs), impl.MaxProcs}, most/20)
}

func TestBehindAsManyTimesAsTheDenEachHadItsNum(t *testing.T) {
	for _, f := range slices.Concat(smallFits(), otherFits()) {
		den := int64(1)
		for _, s := range f.list {
			if s.Num != s.Den {
				den = s.Den
			}
		}
		if den > 60 {
			continue
		}
		then, _ := impl.ManyRun(newMany(t, f), den)
		for i, s := range f.list {
			if then.Counts[i] != den*s.Num/s.Den {
				t.Fatalf("of %v on %d, behind %d times: they had %v", f.list, f.procs, den, then.Counts)
			}
			checkManyLag(t, then, int64(i), 0)
		}
	}
}

func TestManyRunInTwoPartsIsOneRun(t *testing.T) {
	for k, x := range manyStates() {
		if k%5 != 0 {
			continue
		}
		n := int64(k%40 + 1)
		first := n * int64(k%7) / 6
		whole, times := impl.ManyRun(x, n)
		middle, ahead := impl.ManyRun(x, first)
		end, behind := impl.ManyRun(middle, n-first)
		if x.Now+n > impl.MaxTime {
			if !isZeroMany(whole) || len(times) != 0 || !isZeroMany(end) || len(behind) != 0 {
				t.Fatalf("ManyRun(%v, %d) = %v, %v, its last part %v, %v", x, n, whole, times, end, behind)
			}
			continue
		}
		if !sameMany(whole, end) || !sameTimes(times, slices.Concat(ahead, behind)) || !impl.ManyOk(whole) {
			t.Fatalf("ManyRun(%v, %d) = %v, %v; parts of %d and %d: %v, %v and %v", x, n, whole, times, first, n-first, end, ahead, behind)
		}
	}
}

func TestManyRunIsManyNextSoOften(t *testing.T) {
	for k, x := range manyStates() {
		if k%29 != 0 {
			continue
		}
		at, all := x, [][]int64{}
		for n := range int64(12) {
			if isZeroMany(at) {
				checkNoManyRun(t, x, n)
				continue
			}
			checkManyRun(t, x, n, at, all...)
			next, taken := impl.ManyNext(at)
			at, all = next, append(all, taken)
		}
	}
}

func TestManyAnswersTheSameEachTime(t *testing.T) {
	full := manyOf(impl.MaxProcs, 100, sharesOf(impl.MaxCrew, shareOf(1, 3)), make([]int64, impl.MaxCrew)...)
	for k, x := range append(manyStates(), full) {
		if k%50 != 0 && len(x.Shares) < impl.MaxCrew || k%5 != 0 {
			continue
		}
		want, taken := impl.ManyNext(x)
		for range 10 {
			if got, again := impl.ManyNext(x); !sameMany(got, want) || !slices.Equal(again, taken) {
				t.Fatalf("ManyNext(%v) = %v and %v, %v and %v", x, want, got, taken, again)
			}
		}
	}
	for range 100 {
		checkTaken(t, full, 0, 1, 2, 3, 4, 5, 6, 7)
	}
}

// manyWithRoom is the same with room behind its lists that must stay as it is.
func manyWithRoom(x impl.Many) impl.Many {
	return impl.Many{Shares: sharesWithRoom(x.Shares), Counts: withRoom(x.Counts), Procs: x.Procs, Now: x.Now}
}

func TestManyLeavesItsArgumentsAsTheyWere(t *testing.T) {
	for k, x := range append(manyStates(), wrongManys()...) {
		given := manyWithRoom(x)
		shares, counts := given.Shares[:len(given.Shares)+3], given.Counts[:len(given.Counts)+3]
		allShares, allCounts := slices.Clone(shares), slices.Clone(counts)
		impl.ManyOk(given)
		impl.NewMany(given.Shares, given.Procs)
		impl.ManyNext(given)
		for _, n := range []int64{-1, 0, 1, int64(k % 9), impl.MaxSteps + 1} {
			impl.ManyRun(given, n)
		}
		for _, i := range []int64{-1, 0, int64(len(x.Shares)) - 1, int64(len(x.Shares))} {
			impl.ManyLag(given, i)
		}
		if !slices.Equal(shares, allShares) || !slices.Equal(counts, allCounts) {
			t.Fatalf("were %v and %v, are %v and %v", allShares, allCounts, shares, counts)
		}
	}
}

func TestManyAnswersAreNewMemory(t *testing.T) {
	answers := map[string]func(impl.Many) (impl.Many, [][]int64){
		"new": func(x impl.Many) (impl.Many, [][]int64) { y, _ := impl.NewMany(x.Shares, x.Procs); return y, nil },
		"next": func(x impl.Many) (impl.Many, [][]int64) {
			y, taken := impl.ManyNext(x)
			return y, [][]int64{taken}
		},
		"run0": func(x impl.Many) (impl.Many, [][]int64) { return impl.ManyRun(x, 0) },
		"run1": func(x impl.Many) (impl.Many, [][]int64) { return impl.ManyRun(x, 1) },
		"run6": func(x impl.Many) (impl.Many, [][]int64) { return impl.ManyRun(x, 6) },
	}
	for k, x := range manyStates() {
		if k%6 != 0 {
			continue
		}
		for name, ask := range answers {
			checkNewMemory(t, name, x, ask)
		}
	}
}

// checkNewMemory spoils one list of the answer after the other; those that come later, and
// the argument, must be as they were. Then it spoils the argument.
func checkNewMemory(t *testing.T, name string, x impl.Many, ask func(impl.Many) (impl.Many, [][]int64)) {
	t.Helper()
	given := manyWithRoom(x)
	want, wantTimes := ask(x)
	want, wantTimes = manyCopy(want), timesCopy(wantTimes)
	got, times := ask(given)
	again, timesAgain := ask(given)
	spoilShares(got.Shares)
	spoil(got.Counts)
	if !sameTimes(times, wantTimes) || !sameMany(given, x) {
		t.Fatalf("%s of %v: a change of its Shares or Counts is seen elsewhere", name, x)
	}
	for k := range times {
		spoil(times[k])
		if !sameTimes(times[k+1:], wantTimes[k+1:]) || !sameMany(given, x) {
			t.Fatalf("%s of %v: a change of what it tells of one time is seen elsewhere", name, x)
		}
	}
	for k := range times[:cap(times)] {
		times[:cap(times)][k] = []int64{-5}
	}
	spoilShares(given.Shares)
	spoil(given.Counts)
	if !sameMany(again, want) || !sameTimes(timesAgain, wantTimes) {
		t.Fatalf("%s of %v: a change of the argument or of another answer is seen in it", name, x)
	}
}
