package tests

import (
	"math"
	"slices"
	"testing"

	"loop.example/g00763/impl"
)

func sameShop(a impl.Shop, b impl.Shop) bool {
	return a.Policy == b.Policy && a.Procs == b.Procs && a.Now == b.Now && slices.Equal(a.Tasks, b.Tasks) &&
		slices.Equal(a.Members, b.Members) && slices.Equal(a.Crew, b.Crew) && slices.Equal(a.Counts, b.Counts) &&
		sameSmooth(a.Smooth, b.Smooth) && sameList(a.List, b.List) && sameMany(a.Many, b.Many)
}

func isZeroShop(s impl.Shop) bool { return sameShop(s, impl.Shop{}) }

// remade is the shop with each of its lists made anew by one of these.
func remade(s impl.Shop, numbers func([]int64) []int64, tasks func([]impl.Task) []impl.Task, shares func([]impl.Share) []impl.Share) impl.Shop {
	s.Tasks, s.Many.Shares = tasks(s.Tasks), shares(s.Many.Shares)
	for _, list := range numberLists(&s) {
		*list = numbers(*list)
	}
	return s
}

func shopClone(s impl.Shop) impl.Shop {
	return remade(s, slices.Clone[[]int64], slices.Clone[[]impl.Task], slices.Clone[[]impl.Share])
}

// shopWithRoom is the same with room behind its lists that must stay as it is.
func shopWithRoom(s impl.Shop) impl.Shop { return remade(s, withRoom, tasksWithRoom, sharesWithRoom) }

func toTheEnd[T any](list []T) []T { return list[:cap(list)] }

// wholeShop has the room behind its lists in them.
func wholeShop(s impl.Shop) impl.Shop {
	return remade(s, toTheEnd[int64], toTheEnd[impl.Task], toTheEnd[impl.Share])
}

// numberLists are all lists of a shop that are of numbers.
func numberLists(s *impl.Shop) []*[]int64 {
	return []*[]int64{
		&s.Members, &s.Crew, &s.Counts, &s.Smooth.Crew, &s.Smooth.Rich, &s.List.Crew, &s.List.Had, &s.Many.Counts,
	}
}

// numbersOf are all numbers of a shop.
func numbersOf(s *impl.Shop) []*int64 {
	all := []*int64{&s.Policy, &s.Procs, &s.Now, &s.List.Turns, &s.List.At, &s.Many.Procs, &s.Many.Now}
	for i := range s.Tasks {
		all = append(all, &s.Tasks[i].Id, &s.Tasks[i].Weight, &s.Tasks[i].State, &s.Tasks[i].Had)
	}
	for i := range s.Many.Shares {
		all = append(all, &s.Many.Shares[i].Num, &s.Many.Shares[i].Den)
	}
	for _, list := range numberLists(s) {
		for i := range *list {
			all = append(all, &(*list)[i])
		}
	}
	return all
}

func wantFrame(s impl.Shop) bool {
	return wantPolicy(s.Policy, s.Procs) && wantTasksOk(s.Tasks) && isFrom(0, s.Now, 1000000)
}

func wantPolicy(policy int64, procs int64) bool {
	return isFrom(1, policy, 4) && procs == 1 || policy == 5 && isFrom(1, procs, 8)
}

func wantReopened(s impl.Shop) impl.Shop {
	if !wantFrame(s) {
		return impl.Shop{}
	}
	then := impl.Shop{Policy: s.Policy, Procs: s.Procs, Tasks: slices.Clone(s.Tasks), Now: s.Now}
	for _, task := range s.Tasks {
		if task.State == 1 {
			then.Members = append(then.Members, task.Id)
			then.Crew = append(then.Crew, task.Weight)
			then.Counts = append(then.Counts, 0)
		}
	}
	if len(then.Members) == 0 {
		return then
	}
	switch s.Policy {
	case 1:
		then.Smooth = impl.Smooth{Crew: slices.Clone(then.Crew), Rich: crewOf(len(then.Crew), 0)}
	case 3:
		then.List = impl.List{Crew: slices.Clone(then.Crew), Had: crewOf(len(then.Crew), 0)}
	case 5:
		then.Many = impl.Many{Shares: wantAdjusted(then.Crew, s.Procs), Counts: crewOf(len(then.Crew), 0), Procs: s.Procs}
	}
	return then
}

// wantShopOk lets the beginning of an epoch differ in just what the policy may have from tick to tick.
func wantShopOk(s impl.Shop) bool {
	if !wantFrame(s) {
		return false
	}
	then, right := wantReopened(s), true
	if len(then.Members) > 0 {
		then.Counts = s.Counts
		right = s.Policy == 5 || impl.CountsOk(then.Crew, s.Counts)
		switch s.Policy {
		case 1:
			then.Smooth.Rich = s.Smooth.Rich
			right = right && impl.SmoothOk(s.Smooth)
		case 3:
			then.List.Had, then.List.Turns, then.List.At = s.List.Had, s.List.Turns, s.List.At
			right = right && impl.ListOk(s.List)
		case 5:
			then.Many.Counts, then.Many.Now = s.Many.Counts, s.Many.Now
			right = impl.ManyOk(s.Many) && slices.Equal(s.Counts, s.Many.Counts)
		}
	}
	return right && sameShop(s, then)
}

// shopCall is one of those that change a shop.
type shopCall struct {
	name string
	ask  func(impl.Shop, int64, int64) (impl.Shop, int64)
	want func(impl.Shop, int64, int64) (impl.Shop, int64)
}

func shopCalls() []shopCall {
	return []shopCall{
		{"Opened", impl.Opened, wantByTasks(wantCreated)},
		{"Turned", impl.Turned, wantByTasks(wantChanged)},
		{"Reweighed", impl.Reweighed, wantByTasks(wantWeighed)},
		{"Switched", impl.Switched, wantSwitched},
	}
}

func wantByTasks(want func([]impl.Task, int64, int64) ([]impl.Task, int64)) func(impl.Shop, int64, int64) (impl.Shop, int64) {
	return func(s impl.Shop, id int64, number int64) (impl.Shop, int64) {
		if !wantShopOk(s) {
			return impl.Shop{}, impl.CdBad
		}
		tasks, code := want(s.Tasks, id, number)
		if code != impl.CdOk {
			return s, code
		}
		s.Tasks = tasks
		return wantReopened(s), impl.CdOk
	}
}

func wantSwitched(s impl.Shop, policy int64, procs int64) (impl.Shop, int64) {
	switch {
	case !wantShopOk(s):
		return impl.Shop{}, impl.CdBad
	case !wantPolicy(policy, procs):
		return s, impl.CdBad
	}
	s.Policy, s.Procs = policy, procs
	return wantReopened(s), impl.CdOk
}

func checkShopOk(t *testing.T, s impl.Shop) {
	t.Helper()
	if !impl.ShopOk(s) {
		t.Errorf("ShopOk(%+v) = false", s)
	}
}

func checkReopened(t *testing.T, s impl.Shop, want impl.Shop) {
	t.Helper()
	if got := impl.Reopened(s); !sameShop(got, want) {
		t.Errorf("Reopened(%+v) = %+v; want %+v", s, got, want)
	}
}

func checkShop(t *testing.T, call shopCall, s impl.Shop, a int64, b int64, code int64, want impl.Shop) {
	t.Helper()
	if got, gotCode := call.ask(s, a, b); gotCode != code || !sameShop(got, want) {
		t.Errorf("%s(%+v, %d, %d) = %+v, %d; want %+v, %d", call.name, s, a, b, got, gotCode, want, code)
	}
}

func checkShopCall(t *testing.T, call shopCall, s impl.Shop, a int64, b int64) {
	t.Helper()
	want, code := call.want(s, a, b)
	checkShop(t, call, s, a, b, code, want)
}

// checkNotShop is for a shop that is not ShopOk, whether or not it can be reopened.
func checkNotShop(t *testing.T, s impl.Shop) {
	t.Helper()
	if impl.ShopOk(s) {
		t.Errorf("ShopOk(%+v) = true", s)
	}
	want := wantReopened(s)
	checkReopened(t, s, want)
	if !isZeroShop(want) {
		checkShopOk(t, impl.Reopened(s))
	}
	for _, call := range shopCalls() {
		for _, asked := range [][2]int64{{6, 1}, {2, 1}, {2, 2}, {2, 3}, {5, 2}, {9, 1}, {1, 1}, {0, 0}, {math.MinInt64, math.MaxInt64}} {
			checkShop(t, call, s, asked[0], asked[1], impl.CdBad, impl.Shop{})
		}
	}
}

func checkShopAsTold(t *testing.T, s impl.Shop) {
	t.Helper()
	if !wantShopOk(s) {
		checkNotShop(t, s)
		return
	}
	checkShopOk(t, s)
	checkReopened(t, s, wantReopened(s))
}

// setting is a Policy and how many processors it has.
type setting struct{ policy, procs int64 }

func settings() []setting {
	return []setting{{1, 1}, {2, 1}, {3, 1}, {4, 1}, {5, 1}, {5, 2}, {5, 3}, {5, 8}}
}

func (in setting) shop(now int64, tasks ...impl.Task) impl.Shop {
	return wantReopened(impl.Shop{Policy: in.policy, Procs: in.procs, Tasks: tasks, Now: now})
}

// later is the shop so many ticks later, as long as there is time.
func later(t *testing.T, s impl.Shop, n int64) impl.Shop {
	t.Helper()
	then := shopClone(s)
	n = min(n, 1000000-s.Now)
	then.Now += n
	if len(s.Members) == 0 {
		return then
	}
	switch s.Policy {
	case 1:
		var taken []int64
		then.Smooth, taken = impl.SmoothRun(s.Smooth, n)
		for _, who := range taken {
			then.Counts[who]++
		}
	case 2:
		then.Counts, _ = impl.StrideRun(s.Crew, s.Counts, n)
	case 3:
		var taken []int64
		then.List, taken = impl.ListRun(s.List, n)
		for _, who := range taken {
			then.Counts[who]++
		}
	case 4:
		then.Counts, _ = impl.SingleRun(s.Crew, s.Counts, n)
	case 5:
		then.Many, _ = impl.ManyRun(s.Many, n)
		then.Counts = slices.Clone(then.Many.Counts)
	}
	for i, id := range s.Members {
		at := withId(s.Tasks, id)[0]
		then.Tasks[at].Had = min(100000000, s.Tasks[at].Had+then.Counts[i]-s.Counts[i])
	}
	if !wantShopOk(then) {
		t.Fatalf("%d ticks behind %+v: %+v", n, s, then)
	}
	return then
}

// shopTasks are right lists of tasks: with nobody who is ready, with one, with some and with as many as there can be.
func shopTasks() [][]impl.Task {
	lists := [][]impl.Task{
		nil,
		readyTasks(1),
		readyTasks(9999),
		goneTasks(7),
		{taskOf(4, 7, 2, 3)},
		{taskOf(4, 7, 2, 3), taskOf(5, 7, 3, 100000000), taskOf(6, 7, 1, 100000000)},
		{taskOf(2, 5, 1, 1), taskOf(4, 9, 2, 7), taskOf(7, 3, 1, 1), taskOf(8, 2, 1, 0), taskOf(9, 1, 3, 0)},
		{taskOf(1, 1, 1, 0), taskOf(2, 1000000, 1, 0)},
		{taskOf(1, 1000000, 1, 0), taskOf(2, 1000000, 1, 0), taskOf(3, 1, 1, 0), taskOf(4, 1, 1, 0)},
		{taskOf(3, 1, 1, 5), taskOf(4, 10, 1, 6), taskOf(5, 1, 1, 7)},
		readyTasks(idsTo(24)...),
		goneTasks(idsTo(24)...),
	}
	heavy := readyTasks(idsTo(24)...)
	for i := range heavy {
		heavy[i].Weight = 1000000
	}
	lists = append(lists, heavy)
	for k, list := range someTasks() {
		if k%31 == 0 {
			lists = append(lists, list)
		}
	}
	return lists
}

// rightShops are at the beginning of an epoch and later, for each Policy and each list of tasks.
func rightShops(t *testing.T) []impl.Shop {
	t.Helper()
	var shops []impl.Shop
	for k, tasks := range shopTasks() {
		for _, in := range settings() {
			s := in.shop([]int64{0, 5, 999990, 1000000}[k%4], tasks...)
			shops = append(shops, s, later(t, s, 1), later(t, s, int64(k)+2))
		}
	}
	return shops
}

// smallShop is by hand, for each Policy one tick behind the beginning of an epoch, on two processors where there can be
// two: 2, 7 and 8 are ready.
func smallShop(policy int64) impl.Shop {
	s := impl.Shop{
		Policy: policy, Procs: 1, Now: 40,
		Tasks:   []impl.Task{taskOf(2, 5, 1, 31), taskOf(4, 9, 2, 7), taskOf(7, 3, 1, 0), taskOf(8, 2, 1, 0), taskOf(9, 1, 3, 2)},
		Members: []int64{2, 7, 8}, Crew: []int64{5, 3, 2}, Counts: []int64{1, 0, 0},
	}
	switch policy {
	case impl.PcSmooth:
		s.Smooth = impl.Smooth{Crew: []int64{5, 3, 2}, Rich: []int64{-5, 3, 2}}
	case impl.PcList:
		s.List = impl.List{Crew: []int64{5, 3, 2}, Had: []int64{1, 0, 0}, Turns: 1, At: 1}
	case impl.PcMany:
		s.Procs, s.Counts = 2, []int64{1, 1, 0}
		s.Many = impl.Many{Shares: []impl.Share{shareOf(1, 1), shareOf(3, 5), shareOf(2, 5)}, Counts: []int64{1, 1, 0}, Procs: 2, Now: 1}
	}
	return s
}

// smallStart is the beginning of an epoch of smallShop.
func smallStart(policy int64) impl.Shop {
	s := smallShop(policy)
	s.Counts = []int64{0, 0, 0}
	switch policy {
	case impl.PcSmooth:
		s.Smooth.Rich = []int64{0, 0, 0}
	case impl.PcList:
		s.List.Had, s.List.Turns, s.List.At = []int64{0, 0, 0}, 0, 0
	case impl.PcMany:
		s.Many.Counts, s.Many.Now = []int64{0, 0, 0}, 0
	}
	return s
}

// idleShop has tasks of which nobody is ready.
func idleShop(policy int64) impl.Shop {
	s := impl.Shop{Policy: policy, Procs: 1, Tasks: []impl.Task{taskOf(4, 9, 2, 7), taskOf(9, 1, 3, 2)}, Now: 40}
	if policy == impl.PcMany {
		s.Procs = 2
	}
	return s
}

func TestShopNumbersAreAsTold(t *testing.T) {
	if impl.PcSmooth != 1 || impl.PcStride != 2 || impl.PcList != 3 || impl.PcSingle != 4 || impl.PcMany != 5 {
		t.Fatal(impl.PcSmooth, impl.PcStride, impl.PcList, impl.PcSingle, impl.PcMany)
	}
}

func TestSmallShopsByHand(t *testing.T) {
	for policy := int64(1); policy <= 5; policy++ {
		s, start := smallShop(policy), smallStart(policy)
		checkShopOk(t, s)
		checkShopOk(t, start)
		checkReopened(t, s, start)
		checkReopened(t, start, start)
		idle := idleShop(policy)
		checkShopOk(t, idle)
		checkReopened(t, idle, idle)
	}
}

func TestOpenedByHand(t *testing.T) {
	opened := shopCalls()[0]
	for policy := int64(1); policy <= 5; policy++ {
		s := smallShop(policy)
		want := impl.Shop{
			Policy: policy, Procs: s.Procs, Now: 40,
			Tasks:   append([]impl.Task{taskOf(1, 10, 1, 0)}, s.Tasks...),
			Members: []int64{1, 2, 7, 8}, Crew: []int64{10, 5, 3, 2}, Counts: []int64{0, 0, 0, 0},
		}
		switch policy {
		case impl.PcSmooth:
			want.Smooth = impl.Smooth{Crew: []int64{10, 5, 3, 2}, Rich: []int64{0, 0, 0, 0}}
		case impl.PcList:
			want.List = impl.List{Crew: []int64{10, 5, 3, 2}, Had: []int64{0, 0, 0, 0}}
		case impl.PcMany:
			shares := []impl.Share{shareOf(1, 1), shareOf(5, 10), shareOf(3, 10), shareOf(2, 10)}
			want.Many = impl.Many{Shares: shares, Counts: []int64{0, 0, 0, 0}, Procs: 2}
		}
		checkShop(t, opened, s, 1, 10, impl.CdOk, want)
		checkShopOk(t, want)
		for _, id := range []int64{2, 4, 7, 8, 9} {
			checkShop(t, opened, s, id, 10, impl.CdTwice, s)
		}
		checkShop(t, opened, s, 0, 10, impl.CdBad, s)
		checkShop(t, opened, s, 1, 0, impl.CdBad, s)
	}
}

func TestTurnedByHand(t *testing.T) {
	turned := shopCalls()[1]
	for policy := int64(1); policy <= 5; policy++ {
		s := smallShop(policy)
		want := smallStart(policy)
		// One that was not ready and is gone now alters nothing but the tasks, and an epoch begins.
		want.Tasks[1].State = impl.TkGone
		checkShop(t, turned, s, 4, impl.TkGone, impl.CdOk, want)
		checkShop(t, turned, s, 4, impl.TkBlocked, impl.CdState, s)
		checkShop(t, turned, s, 2, impl.TkReady, impl.CdState, s)
		checkShop(t, turned, s, 9, impl.TkReady, impl.CdState, s)
		checkShop(t, turned, s, 9, impl.TkGone, impl.CdState, s)
		checkShop(t, turned, s, 3, impl.TkReady, impl.CdNone, s)
		checkShop(t, turned, s, 2, 0, impl.CdBad, s)
		checkShop(t, turned, s, 2, 4, impl.CdBad, s)
		// All stop, one by one: behind the last one nothing is kept.
		for _, id := range []int64{2, 8, 7} {
			next, code := impl.Turned(s, id, impl.TkBlocked)
			if code != impl.CdOk || !impl.ShopOk(next) || slices.Contains(next.Members, id) {
				t.Fatalf("Turned(%+v, %d, TkBlocked) = %+v, %d", s, id, next, code)
			}
			s = next
		}
		tasks := smallShop(policy).Tasks
		tasks[0].State, tasks[2].State, tasks[3].State = 2, 2, 2
		idle := impl.Shop{Policy: policy, Procs: s.Procs, Tasks: tasks, Now: 40}
		if !sameShop(s, idle) {
			t.Errorf("when all stopped: %+v; want %+v", s, idle)
		}
		// And they go on.
		for _, id := range []int64{7, 2, 8} {
			s, _ = impl.Turned(s, id, impl.TkReady)
		}
		if !sameShop(s, smallStart(policy)) {
			t.Errorf("when all went on: %+v; want %+v", s, smallStart(policy))
		}
	}
}

func TestReweighedByHand(t *testing.T) {
	reweighed := shopCalls()[2]
	for policy := int64(1); policy <= 5; policy++ {
		s := smallShop(policy)
		want := smallStart(policy)
		want.Tasks[2].Weight, want.Crew[1] = 8, 8
		switch policy {
		case impl.PcSmooth:
			want.Smooth.Crew[1] = 8
		case impl.PcList:
			want.List.Crew[1] = 8
		case impl.PcMany:
			want.Many.Shares = []impl.Share{shareOf(5, 7), shareOf(1, 1), shareOf(2, 7)}
		}
		checkShop(t, reweighed, s, 7, 8, impl.CdOk, want)
		// The weight that it has already is a change, too: an epoch begins.
		checkShop(t, reweighed, s, 7, 3, impl.CdOk, smallStart(policy))
		idle := smallStart(policy)
		idle.Tasks[1].Weight = 1000000
		checkShop(t, reweighed, s, 4, 1000000, impl.CdOk, idle)
		checkShop(t, reweighed, s, 9, 1, impl.CdState, s)
		checkShop(t, reweighed, s, 5, 1, impl.CdNone, s)
		checkShop(t, reweighed, s, 7, 0, impl.CdBad, s)
		checkShop(t, reweighed, s, 7, 1000001, impl.CdBad, s)
	}
}

func TestSwitchedFromEachPolicyToEach(t *testing.T) {
	switched := shopCalls()[3]
	told := map[int64]int{}
	procs := append(wrongProcs(), 1, 2, 3, 4, 5, 6, 7, 8)
	policies := append(farFrom(1, 5), 1, 2, 3, 4, 5)
	for from := int64(1); from <= 5; from++ {
		for _, s := range []impl.Shop{smallShop(from), smallStart(from), idleShop(from)} {
			for to := int64(1); to <= 5; to++ {
				want := smallStart(to)
				if len(s.Members) == 0 {
					want = idleShop(to)
				}
				checkShop(t, switched, s, to, want.Procs, impl.CdOk, want)
			}
			for _, policy := range policies {
				for _, number := range procs {
					checkShopCall(t, switched, s, policy, number)
					_, code := switched.want(s, policy, number)
					told[code]++
				}
			}
		}
	}
	if told[impl.CdOk] != 15*12 || len(told) != 2 {
		t.Errorf("told were %v", told)
	}
}

func TestSwitchedToMoreProcessors(t *testing.T) {
	switched := shopCalls()[3]
	s := smallShop(impl.PcMany)
	for procs := int64(3); procs <= 8; procs++ {
		want := smallStart(impl.PcMany)
		want.Procs, want.Many.Procs = procs, procs
		want.Many.Shares = sharesOf(3, shareOf(1, 1))
		checkShop(t, switched, s, impl.PcMany, procs, impl.CdOk, want)
		checkShop(t, switched, s, impl.PcMany, procs+6, impl.CdBad, s)
		checkShop(t, switched, s, impl.PcSingle, procs, impl.CdBad, s)
	}
	one := smallStart(impl.PcMany)
	one.Procs, one.Many.Procs = 1, 1
	one.Many.Shares = partsOf(10, 5, 3, 2)
	checkShop(t, switched, s, impl.PcMany, 1, impl.CdOk, one)
}

func TestNewShopOfEachPolicyAndProcs(t *testing.T) {
	right := 0
	for _, policy := range append(farFrom(1, 5), 1, 2, 3, 4, 5) {
		for _, procs := range append(wrongProcs(), 1, 2, 3, 4, 5, 6, 7, 8) {
			want := impl.Shop{}
			if wantPolicy(policy, procs) {
				want = impl.Shop{Policy: policy, Procs: procs}
				right++
			}
			got, ok := impl.NewShop(policy, procs)
			if ok != wantPolicy(policy, procs) || !sameShop(got, want) {
				t.Errorf("NewShop(%d, %d) = %+v, %v", policy, procs, got, ok)
			}
			if impl.ShopOk(got) != ok {
				t.Errorf("ShopOk of NewShop(%d, %d): %v", policy, procs, !ok)
			}
		}
	}
	if right != 12 {
		t.Errorf("%d are right", right)
	}
}

func TestRightShops(t *testing.T) {
	for _, s := range rightShops(t) {
		checkShopOk(t, s)
		checkReopened(t, s, wantReopened(s))
		checkShopOk(t, impl.Reopened(s))
	}
}

func TestEveryChangeBeginsAnEpoch(t *testing.T) {
	began := map[string]int{}
	for _, s := range rightShops(t) {
		asked := [][2]int64{{1, 7}, {9998, 1000000}, {s.Policy, s.Procs}, {5, 4}, {1, 1}, {2, 1}, {3, 1}, {4, 1}, {5, 1}, {5, 9}, {0, 1}}
		for i := 0; i < len(s.Tasks); i += 1 + len(s.Tasks)/3 {
			task := s.Tasks[i]
			asked = append(asked, [2]int64{task.Id, 1}, [2]int64{task.Id, 2}, [2]int64{task.Id, 3}, [2]int64{task.Id, task.Weight}, [2]int64{task.Id + 1, 3})
		}
		for _, call := range shopCalls() {
			for _, one := range asked {
				checkShopCall(t, call, s, one[0], one[1])
				then, code := call.ask(s, one[0], one[1])
				checkShopOk(t, then)
				if code == impl.CdOk {
					checkReopened(t, then, then)
					checkReopened(t, s, wantReopened(s))
					began[call.name]++
				}
			}
		}
	}
	for _, call := range shopCalls() {
		if began[call.name] < 1000 {
			t.Errorf("%s began just %d epochs", call.name, began[call.name])
		}
	}
}

// checkChange does one of a row, and holds against the promise what it made of the shop.
func checkChange(t *testing.T, s impl.Shop, call shopCall, a int64, b int64) (impl.Shop, int64) {
	t.Helper()
	was := shopClone(s)
	then, code := call.ask(s, a, b)
	want, wantCode := call.want(was, a, b)
	if code != wantCode || !sameShop(then, want) || !impl.ShopOk(then) || !sameShop(s, was) || then.Now != s.Now {
		t.Fatalf("%s(%+v, %d, %d) = %+v, %d; want %+v, %d", call.name, was, a, b, then, code, want, wantCode)
	}
	if code != impl.CdOk {
		if !sameShop(then, s) {
			t.Fatalf("%s(%+v, %d, %d) = %+v, %d", call.name, s, a, b, then, code)
		}
		return then, code
	}
	if !sameShop(then, impl.Reopened(then)) || !slices.Equal(then.Members, impl.ReadyOf(then.Tasks)) || turnsOf(then.Counts) != 0 {
		t.Fatalf("%s(%+v, %d, %d) begins no epoch: %+v", call.name, s, a, b, then)
	}
	for _, task := range s.Tasks {
		if then.Tasks[impl.FindTask(then.Tasks, task.Id)].Had != task.Had {
			t.Fatalf("%s(%+v, %d, %d) changes what %d had: %+v", call.name, s, a, b, task.Id, then)
		}
	}
	return then, code
}

func TestRightShopsStayRight(t *testing.T) {
	state := uint64(37)
	next := func(below int64) int64 {
		state = state*6364136223846793005 + 1442695040888963407
		return int64(state>>33) % below
	}
	codes := map[string]int{}
	for row := range 120 {
		in := settings()[row%8]
		s, ok := impl.NewShop(in.policy, in.procs)
		if !ok {
			t.Fatal(in)
		}
		s.Now = []int64{0, 0, 900000, 1000000}[next(4)]
		most := []int64{9, 26, 40, 9999}[row%4]
		for range 100 {
			// Three in four of them stay with the Policy of the row.
			call := shopCalls()[next(4)]
			if call.name == "Switched" && next(4) > 0 {
				call = shopCalls()[0]
			}
			a, b := next(most+2), next(12)%5
			if len(s.Tasks) > 0 && next(3) == 0 {
				a = s.Tasks[next(int64(len(s.Tasks)))].Id
			}
			switch call.name {
			case "Opened", "Reweighed":
				b = []int64{next(1000004) - 1, next(9) + 1, 1, 1000000}[next(4)]
			case "Turned":
				// If all were gone soon there would be nobody left to be told of.
				if b == 3 && next(3) > 0 {
					b = 1
				}
			case "Switched":
				a, b = next(7), []int64{1, 1, next(10)}[next(3)]
			}
			then, code := checkChange(t, s, call, a, b)
			codes[call.name+string(rune('0'+code))]++
			s = later(t, then, next(20))
		}
	}
	for _, told := range []string{
		"Opened0", "Opened1", "Opened3", "Opened5", "Turned0", "Turned1", "Turned2", "Turned4",
		"Reweighed0", "Reweighed1", "Reweighed2", "Reweighed4", "Switched0", "Switched1",
	} {
		if codes[told] < 10 {
			t.Errorf("the rows had %s just %d times", told, codes[told])
		}
	}
	if len(codes) != 14 {
		t.Errorf("the rows had %v", codes)
	}
}

// difference is what is changed of a shop that is right, and whether it still is then.
type difference struct {
	name   string
	right  bool
	change func(*impl.Shop)
}

func checkDifferences(t *testing.T, base func() impl.Shop, list []difference) {
	t.Helper()
	for _, one := range list {
		s := base()
		one.change(&s)
		if impl.ShopOk(s) != one.right || wantShopOk(s) != one.right {
			t.Errorf("%s: ShopOk(%+v) = %v", one.name, s, !one.right)
		}
		checkShopAsTold(t, s)
		checkReopened(t, s, wantReopened(s))
	}
}

// foreign are what a Policy may not keep that tells nothing of it; of each kind the whole and every field alone.
func foreign() (smooths []difference, lists []difference, manys []difference) {
	shares := func() []impl.Share { return []impl.Share{shareOf(1, 1), shareOf(3, 5), shareOf(2, 5)} }
	smooths = []difference{
		{"a Smooth", false, func(s *impl.Shop) { s.Smooth, _ = impl.NewSmooth([]int64{5, 3, 2}) }},
		{"Smooth.Crew", false, func(s *impl.Shop) { s.Smooth.Crew = []int64{5, 3, 2} }},
		{"Smooth.Rich", false, func(s *impl.Shop) { s.Smooth.Rich = []int64{0, 0, 0} }},
		{"Smooth.Rich of one", false, func(s *impl.Shop) { s.Smooth.Rich = []int64{0} }},
		{"an empty Smooth", true, func(s *impl.Shop) { s.Smooth = impl.Smooth{Crew: []int64{}, Rich: []int64{}} }},
	}
	lists = []difference{
		{"a List", false, func(s *impl.Shop) { s.List, _ = impl.NewList([]int64{5, 3, 2}) }},
		{"List.Crew", false, func(s *impl.Shop) { s.List.Crew = []int64{5, 3, 2} }},
		{"List.Had", false, func(s *impl.Shop) { s.List.Had = []int64{0, 0, 0} }},
		{"List.Had of one", false, func(s *impl.Shop) { s.List.Had = []int64{0} }},
		{"List.Turns", false, func(s *impl.Shop) { s.List.Turns = 1 }},
		{"List.Turns below 0", false, func(s *impl.Shop) { s.List.Turns = -1 }},
		{"List.At", false, func(s *impl.Shop) { s.List.At = 1 }},
		{"List.At below 0", false, func(s *impl.Shop) { s.List.At = math.MinInt64 }},
		{"an empty List", true, func(s *impl.Shop) { s.List = impl.List{Crew: []int64{}, Had: []int64{}} }},
	}
	manys = []difference{
		{"a Many", false, func(s *impl.Shop) { s.Many, _ = impl.NewMany(shares(), 2) }},
		{"a Many of nobody", false, func(s *impl.Shop) { s.Many, _ = impl.NewMany(nil, s.Procs) }},
		{"Many.Shares", false, func(s *impl.Shop) { s.Many.Shares = shares() }},
		{"Many.Counts", false, func(s *impl.Shop) { s.Many.Counts = slices.Clone(s.Counts) }},
		{"Many.Counts of one", false, func(s *impl.Shop) { s.Many.Counts = []int64{0} }},
		{"Many.Procs", false, func(s *impl.Shop) { s.Many.Procs = 1 }},
		{"Many.Procs below 0", false, func(s *impl.Shop) { s.Many.Procs = -1 }},
		{"Many.Now", false, func(s *impl.Shop) { s.Many.Now = 1 }},
		{"Many.Now of the shop", false, func(s *impl.Shop) { s.Many.Now = s.Now }},
		{"an empty Many", true, func(s *impl.Shop) { s.Many = impl.Many{Shares: []impl.Share{}, Counts: []int64{}} }},
	}
	return smooths, lists, manys
}

func TestWhatIsNotToldOfAPolicyIsZero(t *testing.T) {
	smooths, lists, manys := foreign()
	for policy := int64(1); policy <= 5; policy++ {
		for _, base := range []func(int64) impl.Shop{smallShop, smallStart} {
			shop := func() impl.Shop { return base(policy) }
			if policy != impl.PcSmooth {
				checkDifferences(t, shop, smooths)
			}
			if policy != impl.PcList {
				checkDifferences(t, shop, lists)
			}
			if policy != impl.PcMany {
				checkDifferences(t, shop, manys)
			}
		}
	}
}

func TestWithoutMembersNothingIsKept(t *testing.T) {
	smooths, lists, manys := foreign()
	all := slices.Concat(smooths, lists, manys)
	all = slices.DeleteFunc(all, func(one difference) bool { return one.name == "Many.Counts" })
	all = append(all,
		difference{"Members", false, func(s *impl.Shop) { s.Members = []int64{4} }},
		difference{"Members of 0", false, func(s *impl.Shop) { s.Members = []int64{0} }},
		difference{"a Crew", false, func(s *impl.Shop) { s.Crew = []int64{9} }},
		difference{"a Crew of 0", false, func(s *impl.Shop) { s.Crew = []int64{0} }},
		difference{"Counts", false, func(s *impl.Shop) { s.Counts = []int64{0} }},
		difference{"Crew and Counts", false, func(s *impl.Shop) { s.Crew, s.Counts = []int64{9}, []int64{0} }},
		difference{"a Many with its Counts", false, func(s *impl.Shop) {
			s.Many, _ = impl.NewMany([]impl.Share{shareOf(1, 1)}, s.Procs)
			s.Counts = []int64{0}
		}},
		difference{"one who is ready", false, func(s *impl.Shop) { s.Tasks[0].State = 1 }},
		difference{"one who is gone", true, func(s *impl.Shop) { s.Tasks[0].State = 3 }},
		difference{"another weight", true, func(s *impl.Shop) { s.Tasks[0].Weight = 77 }},
		difference{"no tasks", true, func(s *impl.Shop) { s.Tasks = nil }},
		difference{"empty lists", true, func(s *impl.Shop) { s.Members, s.Crew, s.Counts = []int64{}, []int64{}, []int64{} }},
	)
	for policy := int64(1); policy <= 5; policy++ {
		checkDifferences(t, func() impl.Shop { return idleShop(policy) }, all)
		checkDifferences(t, func() impl.Shop {
			s := idleShop(policy)
			s.Tasks = nil
			return s
		}, slices.DeleteFunc(slices.Clone(all), func(one difference) bool {
			return slices.Contains([]string{"one who is ready", "one who is gone", "another weight"}, one.name)
		}))
		// On one processor any other Policy keeps as much, that is, nothing.
		for other := int64(0); other <= 6; other++ {
			s := idleShop(policy)
			s.Policy, s.Procs = other, 1
			if impl.ShopOk(s) != isFrom(1, other, 5) {
				t.Errorf("ShopOk(%+v) = %v", s, impl.ShopOk(s))
			}
			checkShopAsTold(t, s)
		}
	}
}

func TestWhatAllPoliciesKeep(t *testing.T) {
	all := []difference{
		{"nothing", true, func(s *impl.Shop) {}},
		{"what one had", true, func(s *impl.Shop) { s.Tasks[0].Had = 100000000 }},
		{"what one had is 0", true, func(s *impl.Shop) { s.Tasks[0].Had = 0 }},
		{"what one had passes its limit", false, func(s *impl.Shop) { s.Tasks[0].Had = 100000001 }},
		{"Now at its beginning", true, func(s *impl.Shop) { s.Now = 0 }},
		{"Now at its limit", true, func(s *impl.Shop) { s.Now = 1000000 }},
		{"Now below 0", false, func(s *impl.Shop) { s.Now = -1 }},
		{"Now past its limit", false, func(s *impl.Shop) { s.Now = 1000001 }},
		{"a weight of one who is ready", false, func(s *impl.Shop) { s.Tasks[2].Weight++ }},
		{"a weight of one who is not", true, func(s *impl.Shop) { s.Tasks[1].Weight++ }},
		{"one who is ready is blocked", false, func(s *impl.Shop) { s.Tasks[3].State = 2 }},
		{"one who is blocked is ready", false, func(s *impl.Shop) { s.Tasks[1].State = 1 }},
		{"one who is blocked is gone", true, func(s *impl.Shop) { s.Tasks[1].State = 3 }},
		{"another Id of one who is ready", false, func(s *impl.Shop) { s.Tasks[0].Id = 1 }},
		{"another Id of one who is not", true, func(s *impl.Shop) { s.Tasks[1].Id = 5 }},
		{"tasks that do not rise", false, func(s *impl.Shop) { s.Tasks[1].Id = 2 }},
		{"no tasks", false, func(s *impl.Shop) { s.Tasks = nil }},
		{"no Members", false, func(s *impl.Shop) { s.Members = nil }},
		{"a Member less", false, func(s *impl.Shop) { s.Members = s.Members[:2] }},
		{"a Member more", false, func(s *impl.Shop) { s.Members = append(s.Members, 9) }},
		{"another Member", false, func(s *impl.Shop) { s.Members[1] = 4 }},
		{"Members in another order", false, func(s *impl.Shop) { s.Members[0], s.Members[1] = 7, 2 }},
		{"Members alike", false, func(s *impl.Shop) { s.Members[1] = 2 }},
		{"no Crew", false, func(s *impl.Shop) { s.Crew = nil }},
		{"a Crew of one less", false, func(s *impl.Shop) { s.Crew = s.Crew[:2] }},
		{"a Crew of one more", false, func(s *impl.Shop) { s.Crew = append(s.Crew, 1) }},
		{"a Crew of another weight", false, func(s *impl.Shop) { s.Crew[2] = 3 }},
		{"a Crew in another order", false, func(s *impl.Shop) { s.Crew[0], s.Crew[1] = 3, 5 }},
		{"no Counts", false, func(s *impl.Shop) { s.Counts = nil }},
		{"Counts of one less", false, func(s *impl.Shop) { s.Counts = s.Counts[:2] }},
		{"Counts of one more", false, func(s *impl.Shop) { s.Counts = append(s.Counts, 0) }},
		{"Counts below 0", false, func(s *impl.Shop) { s.Counts[2] = -1 }},
		{"Counts past the limit of one", false, func(s *impl.Shop) { s.Counts = []int64{0, 1000001, 0} }},
		{"nothing kept, nobody there", false, func(s *impl.Shop) {
			*s = impl.Shop{Policy: s.Policy, Procs: s.Procs, Tasks: s.Tasks, Now: s.Now}
		}},
		{"the wrong Policy 0", false, func(s *impl.Shop) { s.Policy = 0 }},
		{"the wrong Policy 6", false, func(s *impl.Shop) { s.Policy = 6 }},
		{"Procs of 0", false, func(s *impl.Shop) { s.Procs = 0 }},
		{"Procs past their limit", false, func(s *impl.Shop) { s.Procs = 9 }},
		{"other Procs", false, func(s *impl.Shop) { s.Procs = 3 - s.Procs }},
	}
	for policy := int64(1); policy <= 5; policy++ {
		checkDifferences(t, func() impl.Shop { return smallShop(policy) }, all)
	}
}

// TestCountsOfOneProcessor is for all Policies but PcMany: they have to be CountsOk, and need not go with what else is kept.
func TestCountsOfOneProcessor(t *testing.T) {
	counts := func(list ...int64) func(*impl.Shop) {
		return func(s *impl.Shop) { s.Counts = list }
	}
	for policy := int64(1); policy <= 4; policy++ {
		checkDifferences(t, func() impl.Shop { return smallShop(policy) }, []difference{
			{"all 0", true, counts(0, 0, 0)},
			{"others", true, counts(7, 0, 9)},
			{"MaxTime of one", true, counts(0, 1000000, 0)},
			{"MaxTime together", true, counts(333333, 333333, 333334)},
			{"more than MaxTime together", false, counts(333333, 333334, 333334)},
			{"MaxTime of one and one more", false, counts(1000000, 0, 1)},
			{"MaxTime of each", false, counts(1000000, 1000000, 1000000)},
			{"0 together", false, counts(1, -1, 0)},
			{"wrap-round together", false, counts(math.MaxInt64, math.MaxInt64, 2)},
		})
	}
}

func TestWhatSmoothKeeps(t *testing.T) {
	rich := func(list ...int64) func(*impl.Shop) {
		return func(s *impl.Shop) { s.Smooth.Rich = list }
	}
	checkDifferences(t, func() impl.Shop { return smallShop(impl.PcSmooth) }, []difference{
		{"a beginning", true, rich(0, 0, 0)},
		{"another Rich", true, rich(7, -3, -4)},
		{"limits", true, rich(100000000, -100000000, 0)},
		{"past a limit", false, rich(100000001, -100000000, -1)},
		{"below a limit", false, rich(1, 100000000, -100000001)},
		{"not 0 together", false, rich(-5, 3, 3)},
		{"one less", false, rich(-5, 5)},
		{"one more", false, rich(-5, 3, 2, 0)},
		{"no Rich", false, rich()},
		{"no Smooth", false, func(s *impl.Shop) { s.Smooth = impl.Smooth{} }},
		{"no Crew in it", false, func(s *impl.Shop) { s.Smooth.Crew = nil }},
		{"another Crew", false, func(s *impl.Shop) { s.Smooth.Crew[1] = 4 }},
		{"the Crew in another order", false, func(s *impl.Shop) { s.Smooth.Crew = []int64{3, 5, 2} }},
		{"a Crew that is not right", false, func(s *impl.Shop) { s.Smooth.Crew[1] = 0 }},
		{"right, and of one more", false, func(s *impl.Shop) { s.Smooth, _ = impl.NewSmooth([]int64{5, 3, 2, 9}) }},
		{"right, and of one less", false, func(s *impl.Shop) { s.Smooth, _ = impl.NewSmooth([]int64{5, 3}) }},
		{"right, and of another Crew", false, func(s *impl.Shop) { s.Smooth, _ = impl.NewSmooth([]int64{5, 3, 1}) }},
		{"a List in its place", false, func(s *impl.Shop) { s.Smooth, s.List = impl.Smooth{}, smallShop(impl.PcList).List }},
	})
}

func TestWhatListKeeps(t *testing.T) {
	list := func(turns int64, at int64, had ...int64) func(*impl.Shop) {
		return func(s *impl.Shop) { s.List = impl.List{Crew: []int64{5, 3, 2}, Had: had, Turns: turns, At: at} }
	}
	checkDifferences(t, func() impl.Shop { return smallShop(impl.PcList) }, []difference{
		{"a beginning", true, list(0, 0, 0, 0, 0)},
		{"a beginning elsewhere", true, list(0, 2, 0, 0, 0)},
		{"amid a cycle", true, list(6, 1, 3, 1, 2)},
		{"a cycle that is over", true, list(10, 0, 5, 3, 2)},
		{"one that had more than its weight", false, list(10, 0, 6, 3, 1)},
		{"one that had less than nothing", false, list(0, 0, 1, -1, 0)},
		{"other Turns", false, list(7, 1, 3, 1, 2)},
		{"At past the end", false, list(6, 3, 3, 1, 2)},
		{"At below 0", false, list(6, -1, 3, 1, 2)},
		{"one less", false, list(4, 1, 3, 1)},
		{"one more", false, list(6, 1, 3, 1, 2, 0)},
		{"no List", false, func(s *impl.Shop) { s.List = impl.List{} }},
		{"no Crew in it", false, func(s *impl.Shop) { s.List.Crew = nil }},
		{"another Crew", false, func(s *impl.Shop) { s.List.Crew[1] = 4 }},
		{"the Crew in another order", false, func(s *impl.Shop) { s.List.Crew = []int64{3, 5, 2} }},
		{"a Crew that is not right", false, func(s *impl.Shop) { s.List.Crew[1] = 0 }},
		{"right, and of one more", false, func(s *impl.Shop) { s.List, _ = impl.NewList([]int64{5, 3, 2, 9}) }},
		{"right, and of one less", false, func(s *impl.Shop) { s.List, _ = impl.NewList([]int64{5, 3}) }},
		{"right, and of another Crew", false, func(s *impl.Shop) { s.List, _ = impl.NewList([]int64{5, 3, 1}) }},
		{"a Smooth in its place", false, func(s *impl.Shop) { s.List, s.Smooth = impl.List{}, smallShop(impl.PcSmooth).Smooth }},
	})
}

func TestWhatManyKeeps(t *testing.T) {
	counts := func(list ...int64) func(*impl.Shop) {
		return func(s *impl.Shop) { s.Counts, s.Many.Counts = list, slices.Clone(list) }
	}
	many := func(procs int64, shares ...impl.Share) func(*impl.Shop) {
		return func(s *impl.Shop) { s.Many.Procs, s.Many.Shares = procs, shares }
	}
	now := func(now int64) func(*impl.Shop) {
		return func(s *impl.Shop) { s.Many.Now = now }
	}
	checkDifferences(t, func() impl.Shop { return smallShop(impl.PcMany) }, []difference{
		{"a beginning", true, counts(0, 0, 0)},
		{"other Counts", true, counts(70, 0, 1)},
		{"MaxTime of each", true, counts(1000000, 1000000, 1000000)},
		{"Counts past the limit", false, counts(1000001, 0, 0)},
		{"Counts below 0", false, counts(1, 1, -1)},
		{"one less", false, counts(1, 1)},
		{"one more", false, counts(1, 1, 0, 0)},
		{"no Counts", false, counts()},
		{"Counts that are not those of Many", false, func(s *impl.Shop) { s.Counts[2] = 1 }},
		{"Counts of Many that are not those", false, func(s *impl.Shop) { s.Many.Counts[0] = 0 }},
		{"Counts in another order", false, func(s *impl.Shop) { s.Counts = []int64{1, 0, 1} }},
		{"Counts that Many lacks", false, func(s *impl.Shop) { s.Many.Counts = nil }},
		{"Now of 0", true, now(0)},
		{"Now of more than the shop's", true, now(41)},
		{"Now of MaxTime", true, now(1000000)},
		{"Now past it", false, now(1000001)},
		{"Now below 0", false, now(-1)},
		{"no Many", false, func(s *impl.Shop) { s.Many = impl.Many{} }},
		{"the same Shares", true, many(2, shareOf(1, 1), shareOf(3, 5), shareOf(2, 5))},
		{"Procs of Many, one more", false, many(3, shareOf(1, 1), shareOf(3, 5), shareOf(2, 5))},
		{"Procs of Many, one less", false, many(1, shareOf(1, 1), shareOf(3, 5), shareOf(2, 5))},
		{"Procs of Many, none", false, many(0, shareOf(1, 1), shareOf(3, 5), shareOf(2, 5))},
		{"Shares made greater", false, many(2, shareOf(1, 1), shareOf(6, 10), shareOf(4, 10))},
		{"a whole one made greater", false, many(2, shareOf(5, 5), shareOf(3, 5), shareOf(2, 5))},
		{"Shares for one processor", false, many(2, partsOf(10, 5, 3, 2)...)},
		{"Shares for three processors", false, many(3, sharesOf(3, shareOf(1, 1))...)},
		{"Shares of less", false, many(2, shareOf(1, 1), shareOf(2, 5), shareOf(2, 5))},
		{"Shares in another order", false, many(2, shareOf(1, 1), shareOf(2, 5), shareOf(3, 5))},
		{"Shares that do not fit", false, many(2, shareOf(1, 1), shareOf(3, 5), shareOf(3, 5))},
		{"a Share that is not right", false, many(2, shareOf(1, 1), shareOf(3, 5), shareOf(0, 5))},
		{"a Share less", false, many(2, shareOf(1, 1), shareOf(3, 5))},
		{"no Shares", false, many(2)},
		{"right, and of one less", false, func(s *impl.Shop) {
			s.Many, _ = impl.NewMany(impl.Adjusted([]int64{5, 3}, 2), 2)
			s.Counts = []int64{0, 0}
		}},
		{"right, and of one more", false, func(s *impl.Shop) {
			s.Many, _ = impl.NewMany(impl.Adjusted([]int64{5, 3, 2, 1}, 2), 2)
			s.Counts = []int64{0, 0, 0, 0}
		}},
		{"right, and of another Crew", false, func(s *impl.Shop) {
			s.Many, _ = impl.NewMany(impl.Adjusted([]int64{5, 3, 1}, 2), 2)
			s.Counts = []int64{0, 0, 0}
		}},
		{"right, and of as many Procs as the shop has then", true, func(s *impl.Shop) {
			s.Many, _ = impl.NewMany(impl.Adjusted([]int64{5, 3, 2}, 8), 8)
			s.Procs, s.Counts = 8, []int64{0, 0, 0}
		}},
		{"a Policy of one processor", false, func(s *impl.Shop) { s.Policy = impl.PcSingle }},
		{"a Policy of one processor, and Procs of 1", false, func(s *impl.Shop) { s.Policy, s.Procs = impl.PcSingle, 1 }},
	})
}

// TestAnotherPolicyOfTheSameShop has the Policy changed, and nothing of what is kept: only those two that keep the same can do that.
func TestAnotherPolicyOfTheSameShop(t *testing.T) {
	for from := int64(1); from <= 5; from++ {
		for to := int64(0); to <= 6; to++ {
			s := smallShop(from)
			s.Policy = to
			right := from == to || from == 2 && to == 4 || from == 4 && to == 2
			if impl.ShopOk(s) != right || wantShopOk(s) != right {
				t.Errorf("ShopOk(%+v) = %v", s, impl.ShopOk(s))
			}
			checkShopAsTold(t, s)
		}
	}
}

// oneNumberOff has each number of the shop changed alone.
func oneNumberOff(s impl.Shop) []impl.Shop {
	var shops []impl.Shop
	for k := range numbersOf(&s) {
		was := *numbersOf(&s)[k]
		for _, number := range []int64{was - 1, was + 1, 0, -1, was + 1<<32, math.MinInt64, math.MaxInt64} {
			if number != was {
				off := shopClone(s)
				*numbersOf(&off)[k] = number
				shops = append(shops, off)
			}
		}
	}
	return shops
}

// otherLists are lists that are not that one.
func otherLists[T any](list []T, more ...T) [][]T {
	lists := [][]T{}
	for _, one := range more {
		lists = append(lists, append(slices.Clone(list), one))
	}
	if len(list) > 0 {
		backward := slices.Clone(list)
		slices.Reverse(backward)
		lists = append(lists, nil, slices.Clone(list[1:]), slices.Clone(list[:len(list)-1]), append(slices.Clone(list), list...), backward)
	}
	return lists
}

// oneListOff has each list of the shop changed alone.
func oneListOff(s impl.Shop) []impl.Shop {
	var shops []impl.Shop
	for k := range numberLists(&s) {
		for _, list := range otherLists(*numberLists(&s)[k], 0, 1, -1, 9999) {
			off := shopClone(s)
			*numberLists(&off)[k] = list
			shops = append(shops, off)
		}
	}
	for _, list := range otherLists(s.Tasks, impl.Task{}, taskOf(1, 1, 1, 0), taskOf(9999, 1, 1, 0), taskOf(9999, 1, 2, 0)) {
		off := shopClone(s)
		off.Tasks = list
		shops = append(shops, off)
	}
	for _, list := range otherLists(s.Many.Shares, impl.Share{}, shareOf(1, 1), shareOf(1, 5)) {
		off := shopClone(s)
		off.Many.Shares = list
		shops = append(shops, off)
	}
	return shops
}

// nearShops are right ones, and all that have one number or one list other than these.
func nearShops(t *testing.T) []impl.Shop {
	t.Helper()
	var bases, shops []impl.Shop
	for policy := int64(1); policy <= 5; policy++ {
		bases = append(bases, smallShop(policy), idleShop(policy))
	}
	for _, in := range settings() {
		for _, tasks := range [][]impl.Task{nil, readyTasks(1), readyTasks(idsTo(6)...)} {
			bases = append(bases, later(t, in.shop(0, tasks...), 3))
		}
	}
	for _, s := range bases {
		shops = slices.Concat(shops, []impl.Shop{s}, oneNumberOff(s), oneListOff(s))
	}
	return shops
}

func TestShopsWithOneNumberOrListOff(t *testing.T) {
	told := map[string]int{}
	for _, s := range nearShops(t) {
		checkShopAsTold(t, s)
		switch {
		case wantShopOk(s):
			told["right"]++
		case wantFrame(s):
			told["can be reopened"]++
		default:
			told["wrong"]++
		}
	}
	for _, kind := range []string{"right", "can be reopened", "wrong"} {
		if told[kind] < 200 {
			t.Errorf("just %d are %s", told[kind], kind)
		}
	}
}

func TestShopsOfWrongTasks(t *testing.T) {
	for k, tasks := range wrongTasks() {
		if k > 60 && k%17 != 0 {
			continue
		}
		for policy := int64(1); policy <= 5; policy++ {
			for _, s := range []impl.Shop{smallShop(policy), idleShop(policy)} {
				s.Tasks = tasks
				checkNotShop(t, s)
			}
			// And such that all else is as it would be if they were right.
			s := impl.Shop{Policy: policy, Procs: 1, Tasks: tasks}
			for _, task := range tasks {
				if task.State == 1 {
					s.Members, s.Crew, s.Counts = append(s.Members, task.Id), append(s.Crew, task.Weight), append(s.Counts, 0)
				}
			}
			s.Smooth, _ = impl.NewSmooth(s.Crew)
			checkNotShop(t, s)
			s.Smooth = impl.Smooth{}
			checkNotShop(t, s)
		}
	}
}

func TestShopsOfWrongNumbers(t *testing.T) {
	for policy := int64(1); policy <= 5; policy++ {
		for _, base := range []func(int64) impl.Shop{smallShop, idleShop} {
			for _, wrong := range farFrom(1, 5) {
				s := base(policy)
				s.Policy = wrong
				checkNotShop(t, s)
				s.Procs = 1
				checkNotShop(t, s)
			}
			for _, wrong := range wrongProcs() {
				s := base(policy)
				s.Procs = wrong
				checkNotShop(t, s)
				s.Many.Procs = wrong
				checkNotShop(t, s)
			}
			for _, wrong := range farFrom(0, 1000000) {
				s := base(policy)
				s.Now = wrong
				checkNotShop(t, s)
			}
		}
		for procs := int64(2); procs <= 8 && policy != 5; procs++ {
			s := smallShop(policy)
			s.Procs = procs
			checkNotShop(t, s)
			s = idleShop(policy)
			s.Procs = procs
			checkNotShop(t, s)
		}
	}
	checkNotShop(t, impl.Shop{})
	checkNotShop(t, impl.Shop{Policy: 1})
	checkNotShop(t, impl.Shop{Procs: 1})
	checkNotShop(t, impl.Shop{Tasks: readyTasks(1), Members: []int64{1}, Crew: []int64{1}, Counts: []int64{0}})
	// Lists that are far too long are no reason to fail.
	for policy := int64(1); policy <= 5; policy++ {
		for k := range numberLists(&impl.Shop{}) {
			s := smallShop(policy)
			*numberLists(&s)[k] = crewOf(3000, 1)
			checkNotShop(t, s)
		}
		s := smallShop(policy)
		s.Many.Shares = sharesOf(3000, shareOf(1, 1))
		checkNotShop(t, s)
	}
}

func TestShopCallsAtTheLimitsOfTheirNumbers(t *testing.T) {
	calls := shopCalls()
	for policy := int64(1); policy <= 5; policy++ {
		for _, s := range []impl.Shop{smallShop(policy), idleShop(policy)} {
			for _, call := range calls[:3] {
				for _, far := range wrongIds() {
					checkShop(t, call, s, far, 1, impl.CdBad, s)
					checkShop(t, call, s, far, far, impl.CdBad, s)
				}
			}
			for _, far := range wrongWeights() {
				checkShop(t, calls[0], s, 5, far, impl.CdBad, s)
				checkShop(t, calls[0], s, 4, far, impl.CdBad, s) // and CdTwice
				checkShop(t, calls[2], s, 4, far, impl.CdBad, s)
				checkShop(t, calls[2], s, 5, far, impl.CdBad, s) // and CdNone
				checkShop(t, calls[2], s, 9, far, impl.CdBad, s) // and CdState
			}
			for _, far := range wrongStates() {
				checkShop(t, calls[1], s, 4, far, impl.CdBad, s)
				checkShop(t, calls[1], s, 5, far, impl.CdBad, s) // and CdNone
				checkShop(t, calls[1], s, 9, far, impl.CdBad, s) // and CdState
			}
			for _, id := range []int64{1, 9998, 9999} {
				for _, weight := range []int64{1, 1000000} {
					checkShopCall(t, calls[0], s, id, weight)
					if then, code := impl.Opened(s, id, weight); code != impl.CdOk || !slices.Contains(then.Members, id) {
						t.Errorf("Opened(%+v, %d, %d) = %+v, %d", s, id, weight, then, code)
					}
				}
				checkShop(t, calls[1], s, id, 1, impl.CdNone, s)
				checkShop(t, calls[2], s, id, 1, impl.CdNone, s)
			}
		}
	}
}

func TestFullShops(t *testing.T) {
	opened := shopCalls()[0]
	for _, in := range settings() {
		for _, gone := range []int{0, 1, 23, 24} {
			tasks := slices.Concat(goneTasks(idsTo(24)[:gone]...), readyTasks(idsTo(24)[gone:]...))
			s := later(t, in.shop(1, tasks...), 30)
			checkShop(t, opened, s, 3, 1, impl.CdFull, s)
			checkShop(t, opened, s, 9999, 1000000, impl.CdFull, s)
			checkShop(t, opened, s, 4, 1, impl.CdTwice, s) // and CdFull
			checkShop(t, opened, s, 0, 1, impl.CdBad, s)   // and CdFull
			for _, call := range shopCalls() {
				for _, asked := range [][2]int64{{48, 1}, {48, 2}, {48, 3}, {2, 1}, {2, 2}, {5, 8}, {1, 1}, {3, 1}} {
					checkShopCall(t, call, s, asked[0], asked[1])
				}
			}
			// One less, so that there is room for just one.
			few := later(t, in.shop(1, tasks[:23]...), 30)
			then, code := impl.Opened(few, 48, 1000000)
			if code != impl.CdOk || len(then.Tasks) != 24 || !impl.ShopOk(then) {
				t.Errorf("Opened(%+v, 48, 1000000) = %+v, %d", few, then, code)
			}
		}
		more := impl.Shop{Policy: in.policy, Procs: in.procs, Tasks: goneTasks(idsTo(25)...)}
		checkNotShop(t, more)
	}
}

// askedOfShop is a call of which the shop that it answers is looked at.
type askedOfShop struct {
	name string
	ask  func(impl.Shop) impl.Shop
}

// askedOf has calls of one shop by which each code comes that it can have.
func askedOf(s impl.Shop) []askedOfShop {
	list := []askedOfShop{
		{"Reopened", impl.Reopened},
		{"NewShop", func(s impl.Shop) impl.Shop { then, _ := impl.NewShop(s.Policy, s.Procs); return then }},
	}
	asked := [][2]int64{{1, 1}, {2, 1}, {3, 1}, {4, 1}, {5, 1}, {5, 3}, {0, 1}, {1, 0}, {9999, 7}, {9998, 2}}
	if len(s.Tasks) > 0 {
		id := s.Tasks[len(s.Tasks)/2].Id
		asked = append(asked, [2]int64{id, 1}, [2]int64{id, 2}, [2]int64{id, 3}, [2]int64{id, 0})
	}
	for _, call := range shopCalls() {
		for _, numbers := range asked {
			list = append(list, askedOfShop{call.name, func(s impl.Shop) impl.Shop {
				then, _ := call.ask(s, numbers[0], numbers[1])
				return then
			}})
		}
	}
	return list
}

// spoilersOf write each into one list and the room behind it, and take it out of the shop, so that all else can be compared.
func spoilersOf(s *impl.Shop) []func() {
	spoilers := []func(){
		func() { spoilTasks(s.Tasks); s.Tasks = nil },
		func() { spoilShares(s.Many.Shares); s.Many.Shares = nil },
	}
	for _, list := range numberLists(s) {
		spoilers = append(spoilers, func() { spoil(*list); *list = nil })
	}
	return spoilers
}

func checkShopMemory(t *testing.T, s impl.Shop, asked askedOfShop) {
	t.Helper()
	given := shopWithRoom(s)
	was := shopClone(wholeShop(given))
	want := shopClone(asked.ask(shopClone(s)))
	for k := range spoilersOf(&impl.Shop{}) {
		got, again, left := asked.ask(given), asked.ask(given), shopClone(want)
		spoilersOf(&got)[k]()
		spoilersOf(&left)[k]()
		if !sameShop(got, left) {
			t.Fatalf("%s of %+v: a change of one list of the answer is seen in another one", asked.name, s)
		}
		if !sameShop(wholeShop(given), was) || !sameShop(again, want) {
			t.Fatalf("%s of %+v: a change of one answer is seen elsewhere", asked.name, s)
		}
	}
	again := asked.ask(given)
	for _, spoilOne := range spoilersOf(&given) {
		spoilOne()
	}
	if !sameShop(again, want) {
		t.Fatalf("%s of %+v: a change of the argument is seen in the answer", asked.name, s)
	}
}

func TestShopsAnswersAreNewMemory(t *testing.T) {
	for k, s := range rightShops(t) {
		if k%3 == 0 && k%5 != 0 {
			continue
		}
		for _, asked := range askedOf(s) {
			checkShopMemory(t, s, asked)
		}
	}
	for k, s := range nearShops(t) {
		if k%40 == 0 {
			for _, asked := range askedOf(s) {
				checkShopMemory(t, s, asked)
			}
		}
	}
}

func TestShopsLeaveTheirArgumentsAsTheyWere(t *testing.T) {
	for k, s := range append(rightShops(t), nearShops(t)...) {
		if k%3 != 0 {
			continue
		}
		given := shopWithRoom(s)
		was := shopClone(wholeShop(given))
		impl.ShopOk(given)
		for _, asked := range askedOf(s) {
			asked.ask(given)
		}
		if !sameShop(wholeShop(given), was) {
			t.Fatalf("was %+v, is %+v", was, wholeShop(given))
		}
	}
}

func TestShopsAnswerTheSameEachTime(t *testing.T) {
	for _, s := range rightShops(t) {
		for _, asked := range askedOf(s) {
			first, second := asked.ask(s), asked.ask(shopWithRoom(s))
			if !sameShop(first, second) {
				t.Fatalf("%s of %+v: %+v and %+v", asked.name, s, first, second)
			}
		}
	}
}
