package tests

import (
	"math"
	"slices"
	"testing"

	"loop.example/g00763/impl"
)

// wantTaken moves on what the Policy of a shop with Members keeps, and tells the numbers of those that are taken, rising;
// false where it cannot be done.
func wantTaken(s *impl.Shop) ([]int64, bool) {
	who, is := int64(-1), true
	switch s.Policy {
	case 1:
		s.Smooth, who, is = wantNext(s.Smooth)
	case 2:
		who = wantLast(s.Crew, s.Counts)
	case 3:
		s.List, who, is = wantDown(s.List)
	case 4:
		who = wantDue(s.Crew, s.Counts)
		is = who >= 0
	case 5:
		if s.Many.Now >= 1000000 {
			return nil, false
		}
		then, times := wantTimes(s.Many, 1)
		s.Many = then
		return times[0], true
	}
	return []int64{who}, is
}

// wantTicked is by the document's words; false where the shop is as it is, or zero.
func wantTicked(s impl.Shop) (impl.Shop, []int64, bool) {
	if !wantShopOk(s) {
		return impl.Shop{}, nil, false
	}
	then, ids := shopClone(s), []int64{}
	if len(s.Members) > 0 {
		taken, is := wantTaken(&then)
		if !is {
			return shopClone(s), nil, false
		}
		for _, who := range taken {
			then.Counts[who]++
			ids = append(ids, s.Members[who])
			for _, at := range withId(then.Tasks, s.Members[who]) {
				then.Tasks[at].Had++
			}
		}
	}
	then.Now++
	if !wantShopOk(then) {
		return shopClone(s), nil, false
	}
	return then, ids, true
}

// wantTicks also tells how many of the ticks were done.
func wantTicks(s impl.Shop, n int64) (impl.Shop, [][]int64, int64) {
	switch {
	case !wantShopOk(s):
		return impl.Shop{}, nil, 0
	case !isFrom(0, n, 3000):
		return s, nil, 0
	}
	then, times, done := shopClone(s), make([][]int64, n), int64(0)
	for k := range times {
		next, ids, is := wantTicked(then)
		if !is {
			// As it is now it stays, so it is not asked again.
			break
		}
		then, times[k] = next, ids
		done++
	}
	return then, times, done
}

func wantAge(s impl.Shop) int64 {
	switch {
	case !wantShopOk(s):
		return -1
	case s.Policy == 5:
		return s.Many.Now
	}
	return turnsOf(s.Counts)
}

func checkTick(t *testing.T, s impl.Shop, want impl.Shop, ids ...int64) {
	t.Helper()
	if got, taken := impl.Ticked(s); !sameShop(got, want) || !slices.Equal(taken, ids) {
		t.Errorf("Ticked(%+v) = %+v, %v; want %+v, %v", s, got, taken, want, ids)
	}
	checkTicks(t, s, 1, want, ids)
}

func checkTicks(t *testing.T, s impl.Shop, n int64, want impl.Shop, times ...[]int64) {
	t.Helper()
	if got, told := impl.TickedFor(s, n); !sameShop(got, want) || !sameTimes(told, times) {
		t.Errorf("TickedFor(%+v, %d) = %+v, %v; want %+v, %v", s, n, got, told, want, times)
	}
}

func checkAge(t *testing.T, s impl.Shop, want int64) {
	t.Helper()
	if got := impl.AgeOf(s); got != want {
		t.Errorf("AgeOf(%+v) = %d; want %d", s, got, want)
	}
}

// checkStays is for a right shop of which no tick can be done: as many lists as there are ticks, each one empty.
func checkStays(t *testing.T, s impl.Shop) {
	t.Helper()
	checkShopOk(t, s)
	checkTick(t, s, s)
	for _, n := range []int64{0, 2, 3, impl.MaxSteps} {
		checkTicks(t, s, n, s, make([][]int64, n)...)
	}
	checkWrongSteps(t, s)
}

// checkWrongSteps is for a right shop.
func checkWrongSteps(t *testing.T, s impl.Shop) {
	t.Helper()
	for _, n := range wrongSteps() {
		checkTicks(t, s, n, s)
	}
}

func checkNoTicks(t *testing.T, s impl.Shop) {
	t.Helper()
	if got, taken := impl.Ticked(s); !isZeroShop(got) || len(taken) != 0 {
		t.Errorf("Ticked(%+v) = %+v, %v; want nothing", s, got, taken)
	}
	for _, n := range append(wrongSteps(), 0, 1, 2, impl.MaxSteps) {
		checkTicks(t, s, n, impl.Shop{})
	}
	checkAge(t, s, -1)
}

func checkTicksAsTold(t *testing.T, s impl.Shop, n int64) {
	t.Helper()
	if !wantShopOk(s) {
		checkNoTicks(t, s)
		return
	}
	want, times, _ := wantTicks(s, n)
	checkTicks(t, s, n, want, times...)
	checkAge(t, s, wantAge(s))
	checkAge(t, want, wantAge(want))
}

// checkAlone does a tick at a time, so many times, and holds TickedFor against these.
func checkAlone(t *testing.T, s impl.Shop, n int64) {
	t.Helper()
	then, times := s, [][]int64{}
	for range n {
		next, ids := impl.Ticked(then)
		then, times = next, append(times, ids)
	}
	checkTicks(t, s, n, then, times...)
}

// checkOtherwise holds a tick that was done against the promise, whatever took who: ready tasks alone, none twice, and
// of the shop nothing else another one.
func checkOtherwise(t *testing.T, s impl.Shop, then impl.Shop, ids []int64) {
	t.Helper()
	want := shopClone(s)
	want.Now++
	want.Smooth, want.List, want.Many = then.Smooth, then.List, then.Many
	for k, id := range ids {
		at, who := impl.FindTask(want.Tasks, id), slices.Index(want.Members, id)
		if at < 0 || who < 0 || want.Tasks[at].State != impl.TkReady || k > 0 && ids[k-1] >= id {
			t.Fatalf("a tick of %+v takes %v", s, ids)
		}
		want.Tasks[at].Had++
		want.Counts[who]++
	}
	if !sameShop(then, want) || !impl.ShopOk(then) {
		t.Fatalf("a tick of %+v that takes %v: %+v", s, ids, then)
	}
	if !slices.Equal(impl.ReadyOf(s.Tasks), impl.ReadyOf(then.Tasks)) {
		t.Fatalf("a tick of %+v alters who is ready: %+v", s, then)
	}
}

// checkWay holds a tick that was done of a shop with Members against the call that the document names for its Policy.
func checkWay(t *testing.T, s impl.Shop, then impl.Shop, ids []int64) {
	t.Helper()
	smooth, list, many, taken := impl.Smooth{}, impl.List{}, impl.Many{}, make([]int64, 1)
	switch s.Policy {
	case impl.PcSmooth:
		smooth, taken[0] = impl.SmoothNext(s.Smooth)
	case impl.PcStride:
		taken[0] = impl.StrideNext(s.Crew, s.Counts)
	case impl.PcList:
		list, taken[0] = impl.ListNext(s.List)
	case impl.PcSingle:
		taken[0] = impl.SingleNext(s.Crew, s.Counts)
	case impl.PcMany:
		many, taken = impl.ManyNext(s.Many)
	}
	numbers := []int64{}
	for _, id := range ids {
		numbers = append(numbers, int64(slices.Index(s.Members, id)))
	}
	if !slices.Equal(numbers, taken) || !sameSmooth(then.Smooth, smooth) || !sameList(then.List, list) || !sameMany(then.Many, many) {
		t.Fatalf("a tick of %+v takes %v: %+v", s, ids, then)
	}
}

// checkTickOfRow does one of a row that has ticked from the beginning of its epoch on; false where it cannot be done.
func checkTickOfRow(t *testing.T, s impl.Shop) (impl.Shop, bool) {
	t.Helper()
	was := shopClone(s)
	then, ids := impl.Ticked(s)
	want, wantIds, is := wantTicked(was)
	if !sameShop(then, want) || !slices.Equal(ids, wantIds) || !sameShop(s, was) {
		t.Fatalf("Ticked(%+v) = %+v, %v; want %+v, %v", was, then, ids, want, wantIds)
	}
	if !is {
		if !sameShop(then, s) || len(ids) > 0 {
			t.Fatalf("Ticked(%+v) = %+v, %v", s, then, ids)
		}
		return then, false
	}
	checkOtherwise(t, s, then, ids)
	if len(s.Members) > 0 {
		checkWay(t, s, then, ids)
	}
	if many := min(int64(len(s.Members)), s.Procs); int64(len(ids)) != many {
		t.Fatalf("Ticked(%+v) takes %v, not %d", s, ids, many)
	}
	age := int64(0)
	if len(s.Members) > 0 {
		age = impl.AgeOf(s) + 1
	}
	if impl.AgeOf(then) != age || impl.AgeOf(then) != wantAge(then) {
		t.Fatalf("AgeOf(%+v) = %d; want %d", then, impl.AgeOf(then), age)
	}
	return then, true
}

func TestTickByHandAtTheBeginning(t *testing.T) {
	for policy := int64(1); policy <= 5; policy++ {
		want := smallShop(policy)
		want.Now, want.Tasks[0].Had = 41, 32
		if policy == impl.PcMany {
			want.Tasks[2].Had = 1
			checkTick(t, smallStart(policy), want, 2, 7)
		} else {
			checkTick(t, smallStart(policy), want, 2)
		}
		checkAge(t, smallStart(policy), 0)
		checkAge(t, want, 1)
	}
}

func TestTickByHand(t *testing.T) {
	for policy := int64(1); policy <= 4; policy++ {
		want := smallShop(policy)
		want.Now, want.Tasks[2].Had, want.Counts = 41, 1, []int64{1, 1, 0}
		switch policy {
		case impl.PcSmooth:
			want.Smooth.Rich = []int64{0, -4, 4}
		case impl.PcList:
			want.List.Had, want.List.Turns, want.List.At = []int64{1, 1, 0}, 2, 2
		}
		checkTick(t, smallShop(policy), want, 7)
		checkAge(t, want, 2)
	}
	want := smallShop(impl.PcMany)
	want.Now, want.Tasks[0].Had, want.Tasks[3].Had, want.Counts = 41, 32, 1, []int64{2, 1, 1}
	want.Many.Counts, want.Many.Now = []int64{2, 1, 1}, 2
	checkTick(t, smallShop(impl.PcMany), want, 2, 8)
	checkAge(t, want, 2)
}

func TestTicksByHand(t *testing.T) {
	rows := map[int64][]int64{
		impl.PcSmooth: {2, 7, 8, 2, 2, 7, 2, 8, 7, 2},
		impl.PcStride: {2, 7, 8, 2, 7, 2, 8, 2, 7, 2},
		impl.PcList:   {2, 7, 8, 2, 7, 8, 2, 7, 2, 2},
		impl.PcSingle: {2, 7, 2, 8, 2, 7, 2, 7, 2, 8},
	}
	for policy, row := range rows {
		var times [][]int64
		for _, id := range row {
			times = append(times, []int64{id})
		}
		// Behind as many turns as all weights together each one had its weight, and all begins anew.
		want := smallStart(policy)
		want.Now, want.Counts = 50, []int64{5, 3, 2}
		want.Tasks[0].Had, want.Tasks[2].Had, want.Tasks[3].Had = 36, 3, 2
		if policy == impl.PcList {
			want.List = impl.List{Crew: []int64{5, 3, 2}, Had: []int64{5, 3, 2}, Turns: 10, At: 1}
		}
		checkTicks(t, smallStart(policy), 10, want, times...)
		checkAge(t, want, 10)
		want.Now, want.Counts = 60, []int64{10, 6, 4}
		want.Tasks[0].Had, want.Tasks[2].Had, want.Tasks[3].Had = 41, 6, 4
		checkTicks(t, smallStart(policy), 20, want, append(times, times...)...)
		checkAge(t, want, 20)
	}
	many := [][]int64{{2, 7}, {2, 8}, {2, 7}, {2, 7}, {2, 8}}
	want := smallStart(impl.PcMany)
	want.Now, want.Counts = 50, []int64{10, 6, 4}
	want.Many.Counts, want.Many.Now = []int64{10, 6, 4}, 10
	want.Tasks[0].Had, want.Tasks[2].Had, want.Tasks[3].Had = 41, 6, 4
	checkTicks(t, smallStart(impl.PcMany), 10, want, append(many, many...)...)
	checkAge(t, want, 10)
}

func TestTicksWithoutMembers(t *testing.T) {
	for policy := int64(1); policy <= 5; policy++ {
		idle, empty := idleShop(policy), idleShop(policy)
		empty.Tasks = nil
		for _, s := range []impl.Shop{idle, empty} {
			for _, n := range []int64{0, 1, 2, 17, impl.MaxSteps} {
				want := shopClone(s)
				want.Now += n
				checkTicks(t, s, n, want, make([][]int64, n)...)
				checkAge(t, want, 0)
				checkShopOk(t, want)
			}
			later := shopClone(s)
			later.Now++
			checkTick(t, s, later)
			checkWrongSteps(t, s)
			s.Now = 0
			later.Now = 1
			checkTick(t, s, later)
			s.Now = 1000000
			checkStays(t, s)
			checkAge(t, s, 0)
		}
	}
}

func TestTicksOfNewShops(t *testing.T) {
	for _, in := range settings() {
		s, _ := impl.NewShop(in.policy, in.procs)
		for now := range int64(4) {
			want := impl.Shop{Policy: in.policy, Procs: in.procs, Now: now + 1}
			checkTick(t, s, want)
			checkAge(t, s, 0)
			s, _ = impl.Ticked(s)
		}
	}
}

func TestMoreAndFewerMembersThanProcessors(t *testing.T) {
	for procs := int64(1); procs <= 8; procs++ {
		for size := 1; size <= 24; size++ {
			for _, weight := range []int64{1, 2, 50, 1000000} {
				tasks := readyTasks(idsTo(size)...)
				tasks[size/2].Weight = weight
				s := setting{5, procs}.shop(0, tasks...)
				for range 12 {
					then, is := checkTickOfRow(t, s)
					if !is {
						t.Fatalf("no tick of %+v", s)
					}
					s = then
				}
			}
		}
	}
	// By hand: all of three, while there are at least as many processors.
	s := smallStart(impl.PcMany)
	for procs := int64(3); procs <= 8; procs++ {
		s, _ = impl.Switched(s, impl.PcMany, procs)
		_, times := impl.TickedFor(s, 4)
		if !sameTimes(times, [][]int64{{2, 7, 8}, {2, 7, 8}, {2, 7, 8}, {2, 7, 8}}) {
			t.Errorf("on %d processors: %v", procs, times)
		}
	}
}

// manyShop is smallShop of PcMany, with these Counts and Now of Many.
func manyShop(now int64, counts ...int64) impl.Shop {
	s := smallShop(impl.PcMany)
	s.Counts, s.Many.Counts, s.Many.Now = slices.Clone(counts), slices.Clone(counts), now
	return s
}

func TestTicksThatTakeNobodyOrFewer(t *testing.T) {
	tick := func(s impl.Shop, ids ...int64) {
		t.Helper()
		want := shopClone(s)
		want.Now++
		want.Many.Now++
		for _, id := range ids {
			want.Counts[slices.Index(s.Members, id)]++
			want.Many.Counts[slices.Index(s.Members, id)]++
			want.Tasks[slices.Index([]int64{2, 4, 7, 8, 9}, id)].Had++
		}
		checkTick(t, s, want, ids...)
		checkAge(t, want, s.Many.Now+1)
		checkShopOk(t, want)
	}
	tick(manyShop(1, 5, 4, 3))
	tick(manyShop(0, 1, 1, 1))
	tick(manyShop(2, 2, 4, 3), 2)
	tick(manyShop(2, 3, 2, 1), 8)
	tick(manyShop(2, 3, 1, 2), 7)
	tick(manyShop(3, 4, 2, 1), 7, 8)
	// Whoever had MaxTime turns is never taken any more.
	tick(manyShop(999999, 1000000, 1000000, 1000000))
	tick(manyShop(7, 1000000, 0, 0), 7, 8)
	tick(manyShop(7, 0, 1000000, 1000000), 2)
	s := manyShop(999990, 1000000, 1000000, 399000)
	then, times := impl.TickedFor(s, 10)
	for _, ids := range times {
		if !slices.Equal(ids, []int64{8}) {
			t.Errorf("TickedFor(%+v, 10) = %+v, %v", s, then, times)
		}
	}
	if then.Many.Now != 1000000 || then.Now != 50 || len(times) != 10 {
		t.Errorf("TickedFor(%+v, 10) = %+v, %v", s, then, times)
	}
	checkStays(t, then)
	// All wait, and go on when it is their time.
	s = manyShop(0, 3, 3, 3)
	want := manyShop(6, 6, 4, 3)
	want.Now, want.Tasks[0].Had, want.Tasks[2].Had = 46, 34, 1
	checkTicks(t, s, 6, want, nil, nil, nil, []int64{2}, []int64{2}, []int64{2, 7})
}

func TestBlockedAndGoneAreNeverTaken(t *testing.T) {
	for policy := int64(1); policy <= 5; policy++ {
		s, times := impl.TickedFor(smallStart(policy), impl.MaxSteps)
		had := map[int64]int64{}
		for _, ids := range times {
			for _, id := range ids {
				had[id]++
			}
		}
		if len(had) != 3 || s.Tasks[0].Had != 31+had[2] || s.Tasks[2].Had != had[7] || s.Tasks[3].Had != had[8] {
			t.Errorf("%+v: taken were %v", s, had)
		}
		if s.Tasks[1] != taskOf(4, 9, 2, 7) || s.Tasks[4] != taskOf(9, 1, 3, 2) || len(times) != 3000 || s.Now != 3040 {
			t.Errorf("behind %d ticks: %+v", len(times), s)
		}
		// Whoever is ready again is taken again, whoever is not any more is not.
		s, _ = impl.Turned(s, 4, impl.TkReady)
		s, _ = impl.Turned(s, 2, impl.TkBlocked)
		was := s.Tasks[0].Had
		s, times = impl.TickedFor(s, 30)
		took := slices.Concat(times...)
		if !slices.Contains(took, 4) || slices.Contains(took, 2) || s.Tasks[0].Had != was || s.Tasks[1].Had == 7 {
			t.Errorf("%+v: taken were %v", s, times)
		}
	}
}

func TestTicksOfRightShops(t *testing.T) {
	done := map[int64]int64{}
	for k, s := range rightShops(t) {
		want, ids, is := wantTicked(s)
		checkTick(t, s, want, ids...)
		if is {
			checkOtherwise(t, s, want, ids)
			done[s.Policy]++
		} else {
			done[0]++
		}
		for _, n := range []int64{0, 2, int64(k)%23 + 3} {
			checkTicksAsTold(t, s, n)
		}
		checkAlone(t, s, 5)
	}
	for which := range int64(6) {
		if done[which] < 50 {
			t.Errorf("ticks done of each Policy, and (0) not done: %v", done)
		}
	}
}

// someShops is by hand, each Policy with few and with as many as there can be.
func someShops() []impl.Shop {
	var shops []impl.Shop
	for policy := int64(1); policy <= 5; policy++ {
		shops = append(shops, smallShop(policy), smallStart(policy), idleShop(policy))
	}
	for _, in := range settings() {
		tasks := readyTasks(idsTo(24)...)
		for i := range tasks {
			tasks[i].Weight = int64(i%7)*int64(i%7) + 1
		}
		shops = append(shops, in.shop(0, tasks...), in.shop(7, taskOf(5, 1000000, 1, 0), taskOf(6, 1, 1, 3)), in.shop(0, taskOf(9999, 3, 1, 0)))
	}
	return shops
}

func TestTicksAtTheLimitsOfTheirNumber(t *testing.T) {
	for _, s := range someShops() {
		checkTicks(t, s, 0, s)
		checkTicksAsTold(t, s, 1)
		checkTicksAsTold(t, s, impl.MaxSteps-1)
		checkTicksAsTold(t, s, impl.MaxSteps)
		checkAlone(t, s, impl.MaxSteps)
		checkWrongSteps(t, s)
		if _, times := impl.TickedFor(s, 3000); len(times) != 3000 {
			t.Errorf("TickedFor(%+v, 3000) tells of %d ticks", s, len(times))
		}
		checkTicks(t, s, 3001, s)
		checkTicks(t, s, -1, s)
		checkTicks(t, s, math.MinInt64, s)
		checkTicks(t, s, math.MaxInt64, s)
	}
}

func TestTicksInTwoParts(t *testing.T) {
	for _, s := range someShops() {
		all, times := impl.TickedFor(s, 60)
		for _, n := range []int64{0, 1, 7, 30, 59, 60} {
			half, first := impl.TickedFor(s, n)
			checkTicks(t, half, 60-n, all, times[n:]...)
			if !sameTimes(first, times[:n]) {
				t.Errorf("TickedFor(%+v, %d): %v; of 60: %v", s, n, first, times)
			}
		}
	}
}

// change does one of the calls of the shop, such that most of them can be done.
func change(s impl.Shop, next func(int64) int64) (impl.Shop, int64) {
	id := next(40) + 1
	if len(s.Tasks) > 0 && next(4) > 0 {
		id = s.Tasks[next(int64(len(s.Tasks)))].Id
	}
	weight := []int64{1, next(9) + 1, next(1000000) + 1, 1000000}[next(4)]
	switch next(8) {
	case 0, 1, 2:
		return impl.Opened(s, next(40)+1, weight)
	case 3, 4:
		state := next(7)%3 + 1
		if state == impl.TkGone && next(3) > 0 {
			state = impl.TkReady
		}
		return impl.Turned(s, id, state)
	case 5:
		return impl.Reweighed(s, id, weight)
	case 6:
		return impl.Switched(s, impl.PcMany, next(8)+1)
	}
	return impl.Switched(s, next(5)+1, 1)
}

func TestRowsOfTicksWithChangesBetween(t *testing.T) {
	state := uint64(91)
	next := func(below int64) int64 {
		state = state*6364136223846793005 + 1442695040888963407
		return int64(state>>33) % below
	}
	ticks, changes := map[int64]int64{}, map[int64]int64{}
	for row := range 48 {
		in := settings()[row%8]
		s, _ := impl.NewShop(in.policy, in.procs)
		s.Now = []int64{0, 0, 777777, 999800}[next(4)]
		for range 60 {
			was := shopClone(s)
			then, code := change(s, next)
			if !impl.ShopOk(then) || then.Now != was.Now || !sameShop(s, was) {
				t.Fatalf("%+v: changed to %+v, %d", was, then, code)
			}
			changes[code]++
			if code == impl.CdOk {
				checkAge(t, then, 0)
			}
			s = then
			for range next(25) {
				then, is := checkTickOfRow(t, s)
				switch {
				case !is:
					ticks[0]++
				case len(s.Members) == 0:
					ticks[-1]++
				default:
					ticks[s.Policy]++
				}
				s = then
			}
		}
	}
	for which := int64(-1); which <= 5; which++ {
		if ticks[which] < 400 {
			t.Errorf("ticks of each Policy, (-1) without Members and (0) not done: %v", ticks)
		}
	}
	if changes[impl.CdOk] < 1000 {
		t.Errorf("changes by their codes: %v", changes)
	}
}

// TestWhatAllHadGoesOnFromEpochToEpoch has Counts and the age begin anew where Had and Now do not.
func TestWhatAllHadGoesOnFromEpochToEpoch(t *testing.T) {
	for policy := int64(1); policy <= 5; policy++ {
		s := smallStart(policy)
		for epoch := range int64(5) {
			then, times := impl.TickedFor(s, 10)
			had, taken := int64(0), int64(0)
			for i := range then.Tasks {
				had += then.Tasks[i].Had - s.Tasks[i].Had
			}
			for _, ids := range times {
				taken += int64(len(ids))
			}
			if had != taken || taken != 10*s.Procs || turnsOf(then.Counts) != taken || impl.AgeOf(then) != 10 || then.Now != 50+10*epoch {
				t.Errorf("epoch %d: %+v from %+v by %v", epoch, then, s, times)
			}
			s, _ = impl.Reweighed(then, 7, 3)
			want := smallStart(policy)
			want.Now, want.Tasks = 50+10*epoch, slices.Clone(then.Tasks)
			if !sameShop(s, want) {
				t.Errorf("epoch %d begins with %+v; want %+v", epoch, s, want)
			}
		}
	}
}

// ending is a right shop of which just so many ticks can be done.
type ending struct {
	name  string
	ticks int64
	shop  impl.Shop
}

// endingsOfAll are for each Policy: by Now, by what one had, and by Counts that are MaxTime together.
func endingsOfAll(ticks int64) []ending {
	var list []ending
	for policy := int64(1); policy <= 5; policy++ {
		s := smallStart(policy)
		s.Now = 1000000 - ticks
		list = append(list, ending{"Now", ticks, s})
		s = smallShop(policy)
		s.Now = 1000000 - ticks
		list = append(list, ending{"Now amid an epoch", ticks, s})
		s = idleShop(policy)
		s.Now = 1000000 - ticks
		list = append(list, ending{"Now without Members", ticks, s})
		s = setting{policy, 1}.shop(0, taskOf(4, 9, 2, 100000000), taskOf(7, 3, 1, 100000000-ticks), taskOf(8, 9, 3, 100000000))
		list = append(list, ending{"Had of the only one", ticks, s})
		if policy == impl.PcMany {
			for procs := int64(2); procs <= 8; procs++ {
				s = setting{policy, procs}.shop(0, taskOf(2, 3, 1, 5), taskOf(7, 3, 1, 100000000-ticks))
				list = append(list, ending{"Had of one of two that are taken each time", ticks, s})
			}
			s = manyShop(1000000-ticks, 0, 0, 0)
			list = append(list, ending{"Now of Many", ticks, s})
			s = manyShop(1000000-ticks, 1000000, 1000000, 1000000)
			list = append(list, ending{"Now of Many, and nobody is taken", ticks, s})
			continue
		}
		s = setting{policy, 1}.shop(0, taskOf(7, 3, 1, 0))
		s.Counts[0] = 1000000 - ticks
		list = append(list, ending{"Counts of the only one", ticks, s})
		s = smallShop(policy)
		s.Counts = []int64{500000 - ticks, 300000, 200000}
		list = append(list, ending{"Counts together", ticks, s})
		s = smallStart(policy)
		s.Now, s.Counts = 1000000-ticks, []int64{500000 - ticks, 300000, 200000}
		list = append(list, ending{"Now and Counts at once", ticks, s})
	}
	return list
}

// endingsOfWays are of a Smooth or a List of which the next one cannot be taken.
func endingsOfWays(ticks int64) []ending {
	smooth := setting{1, 1}.shop(3, taskOf(1, 1000000, 1, 4), taskOf(2, 1, 1, 4), taskOf(3, 1, 1, 4), taskOf(4, 1, 1, 4))
	smooth.Smooth = lateEnd(ticks)
	list := setting{3, 1}.shop(3, taskOf(1, 1000000, 1, 4), taskOf(2, 1000000, 1, 4))
	list.List = lateStop(ticks)
	return []ending{{"Smooth", ticks, smooth}, {"List", ticks, list}}
}

func endings(ticks int64) []ending { return append(endingsOfAll(ticks), endingsOfWays(ticks)...) }

// checkEnding meets the first tick that cannot be done at the beginning, amid and at the end of a run.
func checkEnding(t *testing.T, e ending) {
	t.Helper()
	checkShopOk(t, e.shop)
	last, done := impl.TickedFor(e.shop, e.ticks)
	if int64(len(done)) != e.ticks || last.Now != e.shop.Now+e.ticks || sameShop(last, e.shop) != (e.ticks == 0) {
		t.Errorf("%s: TickedFor(%+v, %d) = %+v, %v", e.name, e.shop, e.ticks, last, done)
	}
	if e.ticks > 0 {
		before, most := impl.TickedFor(e.shop, e.ticks-1)
		if before.Now != last.Now-1 || !sameTimes(most, done[:e.ticks-1]) {
			t.Errorf("%s: TickedFor(%+v, %d) = %+v, %v", e.name, e.shop, e.ticks-1, before, most)
		}
		checkTick(t, before, last, done[e.ticks-1]...)
	}
	checkStays(t, last)
	for _, more := range []int64{1, 2, 9, impl.MaxSteps - e.ticks} {
		n := e.ticks + more
		if n > e.ticks && n <= impl.MaxSteps {
			checkTicks(t, e.shop, n, last, append(slices.Clone(done), make([][]int64, more)...)...)
		}
	}
	checkWrongSteps(t, e.shop)
	want, times, ticks := wantTicks(e.shop, e.ticks+1)
	if e.ticks < impl.MaxSteps && (!sameShop(last, want) || !sameTimes(times[:e.ticks], done) || ticks != e.ticks) {
		t.Errorf("%s: TickedFor(%+v, %d) = %+v, %v; want %+v, %v", e.name, e.shop, e.ticks, last, done, want, times)
	}
}

func TestTicksThatCannotBeDone(t *testing.T) {
	for _, ticks := range []int64{0, 1, 2, 3, 10, 33} {
		for _, e := range endings(ticks) {
			checkEnding(t, e)
			checkAlone(t, e.shop, ticks+2)
		}
	}
	for _, ticks := range []int64{2999, 3000} {
		for _, e := range endings(ticks) {
			checkEnding(t, e)
		}
	}
}

func TestAnotherEpochAfterATickThatCannotBeDone(t *testing.T) {
	for _, e := range endings(0) {
		then, code := impl.Switched(e.shop, impl.PcStride, 1)
		next, ids := impl.Ticked(then)
		want, wantIds, is := wantTicked(then)
		if code != impl.CdOk || !sameShop(next, want) || !slices.Equal(ids, wantIds) {
			t.Errorf("%s: Ticked(%+v) = %+v, %v; want %+v, %v", e.name, then, next, ids, want, wantIds)
		}
		// Counts, a Smooth, a List and a Many end with their epoch; Now and what one had do not.
		goesOn := e.shop.Now < 1000000 && !slices.ContainsFunc(e.shop.Tasks, func(task impl.Task) bool {
			return task.State == impl.TkReady && task.Had == 100000000
		})
		if goesOn && !is {
			t.Errorf("%s: no tick of %+v", e.name, then)
		}
	}
}

// TestHadAtItsLimit has each one at its limit: the ticks that take others are done, the one that would take it is not, nor
// is any behind that.
func TestHadAtItsLimit(t *testing.T) {
	rows := map[int64][3]int64{
		impl.PcSmooth: {0, 1, 2}, impl.PcStride: {0, 1, 2}, impl.PcList: {0, 1, 2}, impl.PcSingle: {0, 1, 3}, impl.PcMany: {0, 0, 1},
	}
	for policy, row := range rows {
		for k, at := range []int{0, 2, 3} {
			s := smallStart(policy)
			s.Tasks[at].Had = 100000000
			checkEnding(t, ending{"Had", row[k], s})
			s.Tasks[at].Had--
			want, times, done := wantTicks(s, 20)
			if done <= row[k] || done >= 20 {
				t.Errorf("of %+v %d ticks are done", s, done)
			}
			checkTicks(t, s, 20, want, times...)
			checkEnding(t, ending{"Had, later", done, s})
			if want.Tasks[at].Had != 100000000 {
				t.Errorf("TickedFor(%+v, 20) = %+v", s, want)
			}
		}
		// At the limit of all that are not ready nothing ends.
		s := smallStart(policy)
		s.Tasks[1].Had, s.Tasks[4].Had = 100000000, 100000000
		if _, _, done := wantTicks(s, 20); done != 20 {
			t.Errorf("of %+v %d ticks are done", s, done)
		}
		checkTicksAsTold(t, s, 20)
	}
}

// TestCountsThatEnd is where Counts are not what the Policy goes by: a tick ends by them all the same.
func TestCountsThatEnd(t *testing.T) {
	for policy := int64(1); policy <= 4; policy++ {
		for i := range 3 {
			s := smallStart(policy)
			s.Counts[i] = 1000000
			checkStays(t, s)
			checkAge(t, s, 1000000)
			s.Counts[i]--
			checkAge(t, s, 999999)
			want, times, done := wantTicks(s, 2)
			if done != 1 || turnsOf(want.Counts) != 1000000 {
				t.Errorf("of %+v %d ticks are done", s, done)
			}
			checkTicks(t, s, 2, want, times...)
			checkStays(t, want)
		}
	}
	// By single nobody can be taken of a crew of one that had MaxTime turns.
	s := setting{4, 1}.shop(0, taskOf(7, 3, 1, 0))
	s.Counts[0] = 1000000
	checkStays(t, s)
	// All together may have more than MaxTime on several processors.
	many := manyShop(1000000-1, 999999, 999999, 999998)
	if _, _, done := wantTicks(many, 2); done != 1 {
		t.Errorf("of %+v %d ticks are done", many, done)
	}
	checkTicksAsTold(t, many, 2)
	checkAge(t, many, 999999)
}

func TestSmoothsAndListsThatCannotGoOn(t *testing.T) {
	s := smallShop(impl.PcSmooth)
	s.Smooth.Rich = []int64{-99999999, 100000000, -1}
	checkTicksAsTold(t, s, 3)
	// The second one would have more than MaxRich, and is not the one that gives.
	s.Smooth.Rich = []int64{100000000, 99999998, -199999998}
	checkNoTicks(t, s)
	big := setting{1, 1}.shop(0, readyTasks(2, 4, 6, 8)...)
	big.Smooth.Rich = []int64{100000000, 100000000, -100000000, -100000000}
	checkStays(t, big)
	big.Smooth.Rich = []int64{100000000, 99999999, -99999999, -100000000}
	want := shopClone(big)
	want.Now, want.Counts[0], want.Tasks[0].Had = 1, 1, 1
	want.Smooth.Rich = []int64{99999997, 100000000, -99999998, -99999999}
	checkTick(t, big, want, 2)
	checkTicksAsTold(t, big, 5)
	// Of these lists the one at At has nothing left, and the cycle is not over.
	for _, x := range []impl.List{listOf([]int64{5, 3, 2}, 0, 5, 0, 0), listOf([]int64{5, 3, 2}, 1, 0, 3, 2), listOf([]int64{5, 3, 2}, 2, 4, 3, 2)} {
		s := smallShop(impl.PcList)
		s.List = x
		checkStays(t, s)
		checkAge(t, s, 1)
	}
	// One that is over begins anew, wherever it stands.
	for at := range int64(3) {
		s := smallShop(impl.PcList)
		s.List = listOf([]int64{5, 3, 2}, at, 5, 3, 2)
		want := smallShop(impl.PcList)
		want.Now, want.Counts[0], want.Tasks[0].Had = 41, 2, 32
		checkTick(t, s, want, 2)
	}
}

func TestAgeByHand(t *testing.T) {
	for policy := int64(1); policy <= 4; policy++ {
		s := smallShop(policy)
		checkAge(t, s, 1)
		s.Counts = []int64{7, 0, 9}
		checkAge(t, s, 16)
		s.Counts = []int64{333333, 333333, 333334}
		checkAge(t, s, 1000000)
		s.Counts[0]++
		checkAge(t, s, -1)
		checkAge(t, smallStart(policy), 0)
		checkAge(t, idleShop(policy), 0)
	}
	checkAge(t, smallShop(impl.PcMany), 1)
	checkAge(t, manyShop(0, 7, 8, 9), 0)
	checkAge(t, manyShop(77, 0, 0, 0), 77)
	checkAge(t, manyShop(1000000, 1, 1, 1), 1000000)
	checkAge(t, manyShop(1000001, 1, 1, 1), -1)
	checkAge(t, idleShop(impl.PcMany), 0)
	checkAge(t, impl.Shop{}, -1)
}

func TestTicksOfShopsWithOneNumberOrListOff(t *testing.T) {
	right, wrong := 0, 0
	for _, s := range nearShops(t) {
		if wantShopOk(s) {
			right++
			want, ids, _ := wantTicked(s)
			checkTick(t, s, want, ids...)
			checkTicksAsTold(t, s, 4)
			checkWrongSteps(t, s)
			continue
		}
		wrong++
		checkNoTicks(t, s)
	}
	if right < 200 || wrong < 1000 {
		t.Errorf("just %d are right and %d wrong", right, wrong)
	}
}

func TestTicksOfWrongShops(t *testing.T) {
	for policy := int64(1); policy <= 5; policy++ {
		for _, base := range []func(int64) impl.Shop{smallShop, smallStart, idleShop} {
			s := base(policy)
			for _, wrong := range farFrom(1, 5) {
				s.Policy = wrong
				checkNoTicks(t, s)
			}
			s = base(policy)
			for _, wrong := range wrongProcs() {
				s.Procs = wrong
				checkNoTicks(t, s)
			}
			s = base(policy)
			for _, wrong := range farFrom(0, 1000000) {
				s.Now = wrong
				checkNoTicks(t, s)
			}
			for k, tasks := range wrongTasks() {
				if k < 60 || k%37 == 0 {
					s = base(policy)
					s.Tasks = tasks
					checkNoTicks(t, s)
				}
			}
		}
		for k := range numberLists(&impl.Shop{}) {
			s := smallShop(policy)
			*numberLists(&s)[k] = crewOf(3000, 1)
			checkNoTicks(t, s)
		}
	}
	smooths, lists, manys := foreign()
	for _, one := range slices.Concat(smooths, lists, manys) {
		s := smallShop(impl.PcStride)
		one.change(&s)
		if one.right {
			checkTicksAsTold(t, s, 3)
		} else {
			checkNoTicks(t, s)
		}
	}
	checkNoTicks(t, impl.Shop{})
	checkNoTicks(t, impl.Shop{Policy: 1})
	checkNoTicks(t, impl.Shop{Procs: 1})
}

// tickCall is a call of which the shop that it answers and the lists of each time are looked at.
type tickCall struct {
	name string
	ask  func(impl.Shop) (impl.Shop, [][]int64)
}

func tickCalls() []tickCall {
	list := []tickCall{{"Ticked", func(s impl.Shop) (impl.Shop, [][]int64) {
		then, ids := impl.Ticked(s)
		return then, [][]int64{ids}
	}}}
	for _, n := range []int64{0, 1, 2, 7, -1, impl.MaxSteps + 1} {
		list = append(list, tickCall{"TickedFor", func(s impl.Shop) (impl.Shop, [][]int64) { return impl.TickedFor(s, n) }})
	}
	return list
}

// checkTimesMemory writes into all that is answered, one list after the other.
func checkTimesMemory(t *testing.T, s impl.Shop, call tickCall) {
	t.Helper()
	given := shopWithRoom(s)
	was := shopClone(wholeShop(given))
	want, wantTimes := call.ask(shopClone(s))
	want, wantTimes = shopClone(want), timesCopy(wantTimes)
	got, times := call.ask(given)
	again, timesAgain := call.ask(given)
	for k := range times {
		spoil(times[k])
		if !sameTimes(times[k+1:], wantTimes[k+1:]) || !sameShop(got, want) || !sameShop(wholeShop(given), was) {
			t.Fatalf("%s of %+v: a change of what it tells of one time is seen elsewhere", call.name, s)
		}
	}
	for k := range times[:cap(times)] {
		times[:cap(times)][k] = []int64{-5}
	}
	for _, spoilOne := range append(spoilersOf(&got), spoilersOf(&given)...) {
		spoilOne()
	}
	if !sameShop(again, want) || !sameTimes(timesAgain, wantTimes) {
		t.Fatalf("%s of %+v: a change of the argument or of another answer is seen in it", call.name, s)
	}
	for _, spoilOne := range spoilersOf(&again) {
		spoilOne()
	}
	if !sameTimes(timesAgain, wantTimes) {
		t.Fatalf("%s of %+v: a change of the shop it answers is seen in what it tells", call.name, s)
	}
}

// shopsForMemory are right, right and at their ends, and wrong.
func shopsForMemory(t *testing.T) []impl.Shop {
	t.Helper()
	shops := someShops()
	for _, ticks := range []int64{0, 1, 4} {
		for _, e := range endings(ticks) {
			shops = append(shops, e.shop)
		}
	}
	for k, s := range append(rightShops(t), nearShops(t)...) {
		if k%11 == 0 {
			shops = append(shops, s)
		}
	}
	return shops
}

func TestTicksAnswersAreNewMemory(t *testing.T) {
	for _, s := range shopsForMemory(t) {
		for _, call := range tickCalls() {
			checkShopMemory(t, s, askedOfShop{call.name, func(s impl.Shop) impl.Shop {
				then, _ := call.ask(s)
				return then
			}})
			checkTimesMemory(t, s, call)
		}
	}
}

func TestTicksLeaveTheirArgumentsAsTheyWere(t *testing.T) {
	for _, s := range shopsForMemory(t) {
		given := shopWithRoom(s)
		was := shopClone(wholeShop(given))
		impl.AgeOf(given)
		for _, call := range tickCalls() {
			call.ask(given)
		}
		if !sameShop(wholeShop(given), was) {
			t.Fatalf("was %+v, is %+v", was, wholeShop(given))
		}
	}
}

func TestTicksAnswerTheSameEachTime(t *testing.T) {
	for _, s := range shopsForMemory(t) {
		for _, call := range tickCalls() {
			first, times := call.ask(s)
			for range 3 {
				second, timesAgain := call.ask(shopWithRoom(s))
				if !sameShop(first, second) || !sameTimes(times, timesAgain) {
					t.Fatalf("%s of %+v: %+v, %v and %+v, %v", call.name, s, first, times, second, timesAgain)
				}
			}
		}
		if impl.AgeOf(s) != impl.AgeOf(shopWithRoom(s)) {
			t.Fatalf("AgeOf(%+v)", s)
		}
	}
}
