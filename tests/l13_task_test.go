package tests

import (
	"math"
	"slices"
	"testing"

	"loop.example/g00763/impl"
)

func taskOf(id, weight, state, had int64) impl.Task {
	return impl.Task{Id: id, Weight: weight, State: state, Had: had}
}

// readyTasks are of these Ids, of weight 1, and had nothing.
func readyTasks(ids ...int64) []impl.Task {
	var list []impl.Task
	for _, id := range ids {
		list = append(list, taskOf(id, 1, impl.TkReady, 0))
	}
	return list
}

// goneTasks are of these Ids.
func goneTasks(ids ...int64) []impl.Task {
	list := readyTasks(ids...)
	for i := range list {
		list[i].State = impl.TkGone
	}
	return list
}

// idsTo has so many Ids, with a gap ahead of each one.
func idsTo(size int) []int64 {
	var ids []int64
	for i := range int64(size) {
		ids = append(ids, 2*i+2)
	}
	return ids
}

func tasksWithRoom(list []impl.Task) []impl.Task {
	other := taskOf(77, -77, 777, -7)
	return append(slices.Clone(list), other, other, other)[:len(list)]
}

// spoilTasks writes into all that the list has, the room behind it, too.
func spoilTasks(list []impl.Task) {
	for i := range list[:cap(list)] {
		list[:cap(list)][i] = taskOf(-5, -5, -5, -5)
	}
}

// taskCall is one of those that make one list of tasks of another one.
type taskCall struct {
	name string
	ask  func([]impl.Task, int64, int64) ([]impl.Task, int64)
	want func([]impl.Task, int64, int64) ([]impl.Task, int64)
}

func taskCalls() []taskCall {
	return []taskCall{
		{"Created", impl.Created, wantCreated},
		{"Changed", impl.Changed, wantChanged},
		{"Weighed", impl.Weighed, wantWeighed},
	}
}

// isFrom tells by the document's numbers, so that a wrong constant is seen.
func isFrom(least int64, number int64, most int64) bool { return least <= number && number <= most }

func wantTasksOk(list []impl.Task) bool {
	for i, task := range list {
		if !isFrom(1, task.Id, 9999) || !isFrom(1, task.Weight, 1000000) || !isFrom(1, task.State, 3) || !isFrom(0, task.Had, 100000000) {
			return false
		}
		if i > 0 && list[i-1].Id >= task.Id {
			return false
		}
	}
	return len(list) <= 24
}

// withId are all of that Id, in their order.
func withId(list []impl.Task, id int64) []int64 {
	var places []int64
	for i, task := range list {
		if task.Id == id {
			places = append(places, int64(i))
		}
	}
	return places
}

// someAre tells whether a task of that Id is in one of these states.
func someAre(list []impl.Task, id int64, states ...int64) bool {
	for _, i := range withId(list, id) {
		if slices.Contains(states, list[i].State) {
			return true
		}
	}
	return false
}

// reason is a code, and whether it applies.
type reason struct {
	applies bool
	code    int64
}

// firstOf wants them in the order in which the document names them.
func firstOf(reasons ...reason) int64 {
	for _, one := range reasons {
		if one.applies {
			return one.code
		}
	}
	return impl.CdOk
}

// wantList is the list with what the code allows done to it.
func wantList(list []impl.Task, code int64, do func([]impl.Task) []impl.Task) []impl.Task {
	switch {
	case !wantTasksOk(list):
		return nil
	case code != impl.CdOk:
		return slices.Clone(list)
	}
	return do(slices.Clone(list))
}

func wantCreated(list []impl.Task, id int64, weight int64) ([]impl.Task, int64) {
	code := firstOf(
		reason{!wantTasksOk(list) || !isFrom(1, id, 9999) || !isFrom(1, weight, 1000000), impl.CdBad},
		reason{len(withId(list, id)) > 0, impl.CdTwice},
		reason{len(list) >= 24, impl.CdFull},
	)
	return wantList(list, code, func(then []impl.Task) []impl.Task {
		then = append(then, taskOf(id, weight, 1, 0))
		slices.SortFunc(then, func(a impl.Task, b impl.Task) int { return int(a.Id - b.Id) })
		return then
	}), code
}

func wantChanged(list []impl.Task, id int64, state int64) ([]impl.Task, int64) {
	code := firstOf(
		reason{!wantTasksOk(list) || !isFrom(1, id, 9999) || !isFrom(1, state, 3), impl.CdBad},
		reason{len(withId(list, id)) == 0, impl.CdNone},
		reason{someAre(list, id, state, 3), impl.CdState},
	)
	return wantList(list, code, func(then []impl.Task) []impl.Task {
		then[withId(then, id)[0]].State = state
		return then
	}), code
}

func wantWeighed(list []impl.Task, id int64, weight int64) ([]impl.Task, int64) {
	code := firstOf(
		reason{!wantTasksOk(list) || !isFrom(1, id, 9999) || !isFrom(1, weight, 1000000), impl.CdBad},
		reason{len(withId(list, id)) == 0, impl.CdNone},
		reason{someAre(list, id, 3), impl.CdState},
	)
	return wantList(list, code, func(then []impl.Task) []impl.Task {
		then[withId(then, id)[0]].Weight = weight
		return then
	}), code
}

func wantFound(list []impl.Task, id int64) int64 {
	if places := withId(list, id); len(places) > 0 {
		return places[0]
	}
	return -1
}

func wantReadyIds(list []impl.Task) []int64 {
	var ids []int64
	for _, task := range list {
		if task.State == 1 && wantTasksOk(list) {
			ids = append(ids, task.Id)
		}
	}
	return ids
}

// someTasks is a fixed sequence of right lists, of each size: Ids that are close, far and
// at their limits, each State, weights and Had at their limits and between.
func someTasks() [][]impl.Task {
	state := uint64(13)
	next := func(below int64) int64 {
		state = state*6364136223846793005 + 1442695040888963407
		return int64(state>>33) % below
	}
	var lists [][]impl.Task
	for size := 0; size <= 24; size++ {
		for _, most := range []int64{24, 30, 300, 9999} {
			for _, states := range [][]int64{{1}, {2}, {3}, {1, 2}, {1, 2, 3}} {
				ids := map[int64]bool{}
				for len(ids) < size {
					ids[next(most)+1] = true
				}
				var list []impl.Task
				for id := range most {
					if ids[id+1] {
						weight := []int64{1, 1000000, next(1000000) + 1, next(5) + 1}[next(4)]
						had := []int64{0, 100000000, next(100000001), next(5)}[next(4)]
						list = append(list, taskOf(id+1, weight, states[next(int64(len(states)))], had))
					}
				}
				lists = append(lists, list)
			}
		}
	}
	full := readyTasks(idsTo(24)...)
	full[0].Id, full[23].Id = 1, 9999
	return append(lists, full, readyTasks(1), readyTasks(9999), readyTasks(1, 9999))
}

// farFrom are out of range where least and most are the limits.
func farFrom(least int64, most int64) []int64 {
	return []int64{least - 1, least - 2, -most, most + 1, most + 2, most << 16, 1 << 32, 1<<32 + least, 1<<32 + most, -1 << 32, math.MinInt64, math.MinInt64 + 1, math.MinInt64 + most, math.MaxInt64 - 1, math.MaxInt64}
}

func wrongIds() []int64     { return farFrom(1, 9999) }
func wrongWeights() []int64 { return farFrom(1, 1000000) }
func wrongStates() []int64  { return farFrom(1, 3) }
func wrongHads() []int64    { return farFrom(0, 100000000) }

// wrongTasks are not right, most of them for one reason alone.
func wrongTasks() [][]impl.Task {
	lists := [][]impl.Task{
		{{}},
		readyTasks(3, 3),
		readyTasks(4, 3),
		readyTasks(1, 1, 2),
		readyTasks(1, 2, 2),
		readyTasks(1, 3, 2),
		readyTasks(2, 1, 3),
		readyTasks(1, 5, 1),
		readyTasks(9999, 1),
		readyTasks(idsTo(25)...),
		goneTasks(idsTo(25)...),
		readyTasks(idsTo(26)...),
		readyTasks(idsTo(48)...),
		readyTasks(idsTo(2000)...),
		make([]impl.Task, 24),
		make([]impl.Task, 25),
		{taskOf(3, 1, 1, 0), taskOf(3, 2, 2, 7)},
	}
	spoilt := func(size int, place int, change func(*impl.Task)) {
		list := readyTasks(idsTo(size)...)
		change(&list[place])
		lists = append(lists, list)
	}
	for _, size := range []int{1, 2, 3, 24} {
		for place := range size {
			for _, far := range wrongIds() {
				spoilt(size, place, func(task *impl.Task) { task.Id = far })
			}
			for _, far := range wrongWeights() {
				spoilt(size, place, func(task *impl.Task) { task.Weight = far })
			}
			for _, far := range wrongStates() {
				spoilt(size, place, func(task *impl.Task) { task.State = far })
			}
			for _, far := range wrongHads() {
				spoilt(size, place, func(task *impl.Task) { task.Had = far })
			}
			if place > 0 {
				spoilt(size, place, func(task *impl.Task) { task.Id -= 2 })
				spoilt(size, place, func(task *impl.Task) { task.Id -= 3 })
				spoilt(size, place-1, func(task *impl.Task) { task.Id += 2 })
				spoilt(size, place-1, func(task *impl.Task) { task.Id += 3 })
			}
		}
	}
	return lists
}

func checkTaskCall(t *testing.T, call taskCall, list []impl.Task, id int64, number int64) {
	t.Helper()
	want, wantCode := call.want(list, id, number)
	checkTasks(t, call, list, id, number, wantCode, want...)
}

func checkTasks(t *testing.T, call taskCall, list []impl.Task, id int64, number int64, code int64, then ...impl.Task) {
	t.Helper()
	if got, gotCode := call.ask(list, id, number); gotCode != code || !slices.Equal(got, then) {
		t.Errorf("%s(%v, %d, %d) = %v, %d; want %v, %d", call.name, list, id, number, got, gotCode, then, code)
	}
}

// checkRefused wants the list as it is.
func checkRefused(t *testing.T, call taskCall, list []impl.Task, id int64, number int64, code int64) {
	t.Helper()
	checkTasks(t, call, list, id, number, code, list...)
}

func checkTasksOk(t *testing.T, list []impl.Task) {
	t.Helper()
	if !impl.TasksOk(list) {
		t.Errorf("TasksOk(%v) = false", list)
	}
}

func checkNoTasks(t *testing.T, list []impl.Task) {
	t.Helper()
	if impl.TasksOk(list) {
		t.Errorf("TasksOk(%v) = true", list)
	}
	if got := impl.ReadyOf(list); len(got) != 0 {
		t.Errorf("ReadyOf(%v) = %v; want nothing", list, got)
	}
	numbers := []int64{0, 1, 2, 3, 4, math.MinInt64, math.MaxInt64}
	for _, call := range taskCalls() {
		for _, id := range []int64{0, 1, 2, 3, 9999, 10000, math.MinInt64, math.MaxInt64} {
			for _, number := range numbers {
				checkTasks(t, call, list, id, number, impl.CdBad)
			}
		}
	}
}

func checkFound(t *testing.T, list []impl.Task, id int64, want int64) {
	t.Helper()
	if got := impl.FindTask(list, id); got != want {
		t.Errorf("FindTask(%v, %d) = %d; want %d", list, id, got, want)
	}
}

func checkReadyIds(t *testing.T, list []impl.Task, want ...int64) {
	t.Helper()
	if got := impl.ReadyOf(list); !slices.Equal(got, want) {
		t.Errorf("ReadyOf(%v) = %v; want %v", list, got, want)
	}
}

func TestTaskNumbersAreAsTold(t *testing.T) {
	if impl.MaxId != 9999 || impl.MaxHad != 100000000 || impl.MaxTasks != 24 {
		t.Fatal(impl.MaxId, impl.MaxHad, impl.MaxTasks)
	}
	if impl.TkReady != 1 || impl.TkBlocked != 2 || impl.TkGone != 3 {
		t.Fatal(impl.TkReady, impl.TkBlocked, impl.TkGone)
	}
	if impl.CdOk != 0 || impl.CdBad != 1 || impl.CdNone != 2 || impl.CdTwice != 3 || impl.CdState != 4 || impl.CdFull != 5 {
		t.Fatal(impl.CdOk, impl.CdBad, impl.CdNone, impl.CdTwice, impl.CdState, impl.CdFull)
	}
}

func TestCreatedOrdinary(t *testing.T) {
	created := taskCalls()[0]
	had := []impl.Task{taskOf(3, 10, 2, 40), taskOf(8, 20, 3, 50)}
	checkTasks(t, created, nil, 7, 3, 0, taskOf(7, 3, 1, 0))
	checkTasks(t, created, []impl.Task{}, 7, 3, 0, taskOf(7, 3, 1, 0))
	checkTasks(t, created, had, 1, 9, 0, taskOf(1, 9, 1, 0), had[0], had[1])
	checkTasks(t, created, had, 2, 9, 0, taskOf(2, 9, 1, 0), had[0], had[1])
	checkTasks(t, created, had, 4, 10, 0, had[0], taskOf(4, 10, 1, 0), had[1])
	checkTasks(t, created, had, 7, 20, 0, had[0], taskOf(7, 20, 1, 0), had[1])
	checkTasks(t, created, had, 9, 1, 0, had[0], had[1], taskOf(9, 1, 1, 0))
	checkTasks(t, created, had, 9999, 1000000, 0, had[0], had[1], taskOf(9999, 1000000, 1, 0))
	// One that is gone still has its Id.
	checkRefused(t, created, had, 3, 10, impl.CdTwice)
	checkRefused(t, created, had, 8, 7, impl.CdTwice)
	checkRefused(t, created, had, 0, 7, impl.CdBad)
	checkRefused(t, created, had, 5, 0, impl.CdBad)
	checkRefused(t, created, nil, 5, 0, impl.CdBad)
}

func TestCreatedAtEachPlaceOfEachSize(t *testing.T) {
	created := taskCalls()[0]
	for size := range 24 {
		list := readyTasks(idsTo(size)...)
		for i := range list {
			list[i] = taskOf(list[i].Id, int64(i)+5, int64(i%3)+1, int64(i)*100)
		}
		for place := range size + 1 {
			want := slices.Insert(slices.Clone(list), place, taskOf(2*int64(place)+1, 99, 1, 0))
			checkTasks(t, created, list, 2*int64(place)+1, 99, impl.CdOk, want...)
			checkTasksOk(t, want)
			if place < size {
				checkRefused(t, created, list, list[place].Id, 99, impl.CdTwice)
			}
		}
	}
}

func TestChangedFromEachStateToEach(t *testing.T) {
	changed := taskCalls()[1]
	const ready, blocked, gone = impl.TkReady, impl.TkBlocked, impl.TkGone
	codes := map[[2]int64]int64{
		{ready, ready}: impl.CdState, {ready, blocked}: impl.CdOk, {ready, gone}: impl.CdOk,
		{blocked, ready}: impl.CdOk, {blocked, blocked}: impl.CdState, {blocked, gone}: impl.CdOk,
		{gone, ready}: impl.CdState, {gone, blocked}: impl.CdState, {gone, gone}: impl.CdState,
	}
	for states, code := range codes {
		for _, size := range []int{1, 2, 3, 24} {
			for place := range size {
				list := readyTasks(idsTo(size)...)
				for i := range list {
					list[i] = taskOf(list[i].Id, int64(i)+5, int64(i%3)+1, int64(i)*100)
				}
				list[place].State = states[0]
				want := slices.Clone(list)
				if code == impl.CdOk {
					want[place].State = states[1]
				}
				checkTasks(t, changed, list, list[place].Id, states[1], code, want...)
				checkRefused(t, changed, list, list[place].Id-1, states[1], impl.CdNone)
				checkRefused(t, changed, list, list[place].Id, 0, impl.CdBad)
				checkRefused(t, changed, list, list[place].Id, 4, impl.CdBad)
			}
		}
	}
}

func TestWeighedOfEachState(t *testing.T) {
	weighed := taskCalls()[2]
	list := []impl.Task{taskOf(3, 10, 1, 40), taskOf(5, 20, 2, 50), taskOf(8, 30, 3, 60)}
	for _, weight := range []int64{1, 2, 11, 999999, 1000000} {
		checkTasks(t, weighed, list, 3, weight, 0, taskOf(3, weight, 1, 40), list[1], list[2])
		checkTasks(t, weighed, list, 5, weight, 0, list[0], taskOf(5, weight, 2, 50), list[2])
		checkRefused(t, weighed, list, 8, weight, impl.CdState)
		for _, id := range []int64{1, 2, 4, 6, 7, 9, 9999} {
			checkRefused(t, weighed, list, id, weight, impl.CdNone)
		}
	}
	// The weight it has already is no fault.
	checkTasks(t, weighed, list, 3, 10, impl.CdOk, list...)
	checkTasks(t, weighed, list, 5, 20, impl.CdOk, list...)
	checkRefused(t, weighed, list, 8, 30, impl.CdState)
	checkRefused(t, weighed, nil, 1, 1, impl.CdNone)
}

func TestFindTaskOfEachId(t *testing.T) {
	checkFound(t, nil, 1, -1)
	checkFound(t, nil, 0, -1)
	checkFound(t, []impl.Task{}, 5, -1)
	for _, list := range someTasks() {
		for i, task := range list {
			checkFound(t, list, task.Id, int64(i))
			for _, id := range []int64{task.Id - 1, task.Id + 1} {
				checkFound(t, list, id, wantFound(list, id))
			}
		}
		for _, id := range append(wrongIds(), 1, 9999) {
			checkFound(t, list, id, wantFound(list, id))
		}
	}
	// It is the Id that tells, no other number.
	list := []impl.Task{taskOf(10, 20, 1, 30), taskOf(20, 30, 2, 10), taskOf(30, 10, 3, 20)}
	for i, id := range []int64{10, 20, 30} {
		checkFound(t, list, id, int64(i))
	}
	for _, id := range []int64{0, 1, 2, 3} {
		checkFound(t, list, id, -1)
	}
}

func TestFindTaskOfListsThatAreNotRight(t *testing.T) {
	twice := []impl.Task{taskOf(3, 1, 1, 0), taskOf(2, 5, 3, 9), taskOf(2, 1, 1, 0), taskOf(3, 9, 2, 1), taskOf(1, 0, 0, -1)}
	checkFound(t, twice, 3, 0)
	checkFound(t, twice, 2, 1)
	checkFound(t, twice, 1, 4)
	checkFound(t, twice, 4, -1)
	falling := readyTasks(9, 7, 5, 3, 1)
	for i, task := range falling {
		checkFound(t, falling, task.Id, int64(i))
		checkFound(t, falling, task.Id+1, -1)
	}
	// Neither the Id nor where it stands is held to a limit.
	for _, id := range wrongIds() {
		checkFound(t, []impl.Task{taskOf(7, 0, 0, 0), taskOf(id, 0, 0, 0), taskOf(id, 1, 1, 1)}, id, 1)
		checkFound(t, readyTasks(5, id), id, 1)
		checkFound(t, readyTasks(5, 6), id, -1)
	}
	long := readyTasks(idsTo(2000)...)
	for i, task := range long {
		checkFound(t, long, task.Id, int64(i))
		checkFound(t, long, task.Id-1, -1)
	}
	for _, list := range wrongTasks() {
		for _, id := range []int64{0, 1, 2, 3, 4, 48, math.MinInt64, math.MaxInt64} {
			checkFound(t, list, id, wantFound(list, id))
		}
	}
}

func TestReadyOfEachState(t *testing.T) {
	checkReadyIds(t, nil)
	checkReadyIds(t, []impl.Task{})
	checkReadyIds(t, readyTasks(2, 5, 9999), 2, 5, 9999)
	checkReadyIds(t, goneTasks(2, 5, 9999))
	checkReadyIds(t, readyTasks(idsTo(24)...), idsTo(24)...)
	for first := int64(1); first <= 3; first++ {
		for second := int64(1); second <= 3; second++ {
			list := []impl.Task{taskOf(4, 7, first, 3), taskOf(6, 8, second, 5)}
			checkReadyIds(t, list, wantReadyIds(list)...)
		}
	}
	checkReadyIds(t, []impl.Task{taskOf(1, 2, 2, 1), taskOf(2, 3, 1, 3), taskOf(3, 1, 3, 1), taskOf(7, 1, 1, 2)}, 2, 7)
	for _, list := range someTasks() {
		checkReadyIds(t, list, wantReadyIds(list)...)
	}
}

func TestTasksByTheWords(t *testing.T) {
	lists := append(someTasks(), wrongTasks()[:100]...)
	for _, list := range lists {
		if impl.TasksOk(list) != wantTasksOk(list) {
			t.Errorf("TasksOk(%v) = %v", list, impl.TasksOk(list))
		}
		ids := []int64{0, 1, 2, 5, 24, 9999, 10000}
		for i := 0; i < len(list); i += 1 + len(list)/4 {
			ids = append(ids, list[i].Id, list[i].Id+1)
		}
		for _, call := range taskCalls() {
			for _, id := range ids {
				for _, number := range []int64{-1, 0, 1, 2, 3, 4, 1000000, 1000001} {
					checkTaskCall(t, call, list, id, number)
				}
			}
		}
	}
}

func TestAllSmallTasksByTheWords(t *testing.T) {
	var tasks []impl.Task
	for id := range int64(4) {
		for state := range int64(4) {
			tasks = append(tasks, taskOf(id, id+1, state, state))
		}
	}
	lists := [][]impl.Task{nil}
	for from := 0; len(lists[from]) < 3; from++ {
		for _, task := range tasks {
			lists = append(lists, append(slices.Clone(lists[from]), task))
		}
	}
	for _, list := range lists {
		if impl.TasksOk(list) != wantTasksOk(list) {
			t.Errorf("TasksOk(%v) = %v", list, impl.TasksOk(list))
		}
		checkReadyIds(t, list, wantReadyIds(list)...)
		for id := range int64(5) {
			checkFound(t, list, id, wantFound(list, id))
			for number := range int64(5) {
				for _, call := range taskCalls() {
					checkTaskCall(t, call, list, id, number)
				}
			}
		}
	}
}

// TestTaskCodesInTheirOrder has each pair of codes that can apply to one call.
func TestTaskCodesInTheirOrder(t *testing.T) {
	calls := taskCalls()
	created, changed, weighed := calls[0], calls[1], calls[2]
	full, few := readyTasks(idsTo(24)...), readyTasks(2, 4)
	gone := append(readyTasks(2), goneTasks(4)...)
	more, alike := readyTasks(idsTo(25)...), goneTasks(4, 4)
	for _, wrong := range wrongWeights() {
		checkRefused(t, created, few, 4, wrong, impl.CdBad)  // and CdTwice
		checkRefused(t, created, full, 3, wrong, impl.CdBad) // and CdFull
		checkRefused(t, created, full, 4, wrong, impl.CdBad) // and both
		checkRefused(t, weighed, few, 3, wrong, impl.CdBad)  // and CdNone
		checkRefused(t, weighed, gone, 4, wrong, impl.CdBad) // and CdState
		checkRefused(t, weighed, nil, 3, wrong, impl.CdBad)
	}
	for _, wrong := range wrongIds() {
		checkRefused(t, created, full, wrong, 1, impl.CdBad) // and CdFull
		checkRefused(t, weighed, gone, wrong, 1, impl.CdBad) // and CdNone
		checkRefused(t, weighed, nil, wrong, 1, impl.CdBad)
		checkRefused(t, changed, nil, wrong, 1, impl.CdBad)
		for state := int64(1); state <= 3; state++ {
			checkRefused(t, changed, gone, wrong, state, impl.CdBad) // and CdNone
			checkRefused(t, changed, goneTasks(4), wrong, state, impl.CdBad)
		}
	}
	for _, wrong := range wrongStates() {
		checkRefused(t, changed, few, 3, wrong, impl.CdBad)  // and CdNone
		checkRefused(t, changed, gone, 4, wrong, impl.CdBad) // and CdState
		checkRefused(t, changed, nil, 3, wrong, impl.CdBad)
	}
	for _, task := range full {
		checkRefused(t, created, full, task.Id, 1, impl.CdTwice) // and CdFull
		checkRefused(t, created, full, task.Id-1, 1, impl.CdFull)
	}
	// Nobody of that Id, and whoever is there is of that State already, or gone.
	for state := int64(1); state <= 3; state++ {
		checkRefused(t, changed, few, 3, state, impl.CdNone)
		checkRefused(t, changed, goneTasks(1, 2, 4), 3, state, impl.CdNone)
		checkRefused(t, changed, nil, 3, state, impl.CdNone)
		// A list that is not right, and each other code.
		checkTasks(t, changed, more, 3, state, impl.CdBad)
		checkTasks(t, changed, more, 4, state, impl.CdBad)
		checkTasks(t, changed, alike, 3, state, impl.CdBad)
		checkTasks(t, changed, alike, 4, state, impl.CdBad)
	}
	checkRefused(t, weighed, goneTasks(1, 2, 4), 3, 1, impl.CdNone)
	for _, list := range [][]impl.Task{more, alike} {
		for _, id := range []int64{3, 4} {
			checkTasks(t, created, list, id, 1, impl.CdBad)
			checkTasks(t, created, list, id, 0, impl.CdBad)
			checkTasks(t, weighed, list, id, 1, impl.CdBad)
			checkTasks(t, weighed, list, id, 0, impl.CdBad)
		}
	}
}

func TestTasksAtTheLimitsOfTheirFields(t *testing.T) {
	for _, right := range []impl.Task{
		taskOf(1, 1, 1, 0), taskOf(9999, 1, 1, 0), taskOf(1, 1000000, 1, 0), taskOf(1, 1, 2, 0), taskOf(1, 1, 3, 0),
		taskOf(1, 1, 1, 100000000), taskOf(9999, 1000000, 3, 100000000),
	} {
		checkTasksOk(t, []impl.Task{right})
	}
	for _, wrong := range []impl.Task{
		{}, taskOf(0, 1, 1, 0), taskOf(10000, 1, 1, 0), taskOf(1, 0, 1, 0), taskOf(1, 1000001, 1, 0), taskOf(1, 1, 0, 0), taskOf(1, 1, 4, 0),
		taskOf(1, 1, 1, -1), taskOf(1, 1, 1, 100000001), taskOf(-1, -1, -1, -1),
		taskOf(math.MinInt64, math.MinInt64, math.MinInt64, math.MinInt64), taskOf(math.MaxInt64, math.MaxInt64, math.MaxInt64, math.MaxInt64),
	} {
		checkNoTasks(t, []impl.Task{wrong})
	}
	// They rise by 1 at least.
	checkTasksOk(t, readyTasks(1, 2, 3))
	checkTasksOk(t, readyTasks(1, 9999))
	checkTasksOk(t, readyTasks(9998, 9999))
	checkNoTasks(t, readyTasks(1, 1))
	checkNoTasks(t, readyTasks(9999, 9999))
	checkNoTasks(t, readyTasks(2, 1))
}

func TestTaskCallsAtTheLimitsOfTheirNumbers(t *testing.T) {
	calls := taskCalls()
	created, changed, weighed := calls[0], calls[1], calls[2]
	rows := []struct {
		call       taskCall
		id, number int64
		code       int64
	}{
		{created, 1, 5, impl.CdOk}, {created, 0, 5, impl.CdBad}, {created, 9998, 5, impl.CdOk}, {created, 10000, 5, impl.CdBad},
		{created, 5, 1, impl.CdOk}, {created, 5, 0, impl.CdBad}, {created, 5, 1000000, impl.CdOk}, {created, 5, 1000001, impl.CdBad},
		{changed, 2, 3, impl.CdOk}, {changed, 0, 3, impl.CdBad}, {changed, 9999, 3, impl.CdOk}, {changed, 10000, 3, impl.CdBad},
		{changed, 1, 3, impl.CdNone}, {changed, 9998, 3, impl.CdNone},
		{changed, 4, 1, impl.CdOk}, {changed, 4, 3, impl.CdOk}, {changed, 4, 0, impl.CdBad}, {changed, 4, 4, impl.CdBad},
		{weighed, 2, 5, impl.CdOk}, {weighed, 0, 5, impl.CdBad}, {weighed, 9999, 5, impl.CdOk}, {weighed, 10000, 5, impl.CdBad},
		{weighed, 1, 5, impl.CdNone}, {weighed, 9998, 5, impl.CdNone},
		{weighed, 4, 1, impl.CdOk}, {weighed, 4, 0, impl.CdBad}, {weighed, 4, 1000000, impl.CdOk}, {weighed, 4, 1000001, impl.CdBad},
	}
	list := []impl.Task{taskOf(2, 7, 1, 100000000), taskOf(4, 7, 2, 3), taskOf(9999, 7, 1, 0)}
	for _, row := range rows {
		want, code := row.call.want(list, row.id, row.number)
		if code != row.code {
			t.Fatalf("%s of %d, %d: the words want %d", row.call.name, row.id, row.number, code)
		}
		checkTasks(t, row.call, list, row.id, row.number, row.code, want...)
	}
	checkTasks(t, created, nil, 1, 1, impl.CdOk, taskOf(1, 1, 1, 0))
	checkTasks(t, created, nil, 9999, 1000000, impl.CdOk, taskOf(9999, 1000000, 1, 0))
	for _, call := range calls {
		for _, far := range wrongIds() {
			checkRefused(t, call, list, far, 1, impl.CdBad)
			checkRefused(t, call, list, far, far, impl.CdBad)
		}
	}
	for _, far := range wrongWeights() {
		checkRefused(t, created, list, 5, far, impl.CdBad)
		checkRefused(t, weighed, list, 4, far, impl.CdBad)
	}
	for _, far := range wrongStates() {
		checkRefused(t, changed, list, 4, far, impl.CdBad)
	}
}

func TestTasksAtTheLimitsOfTheirSize(t *testing.T) {
	calls := taskCalls()
	created, changed, weighed := calls[0], calls[1], calls[2]
	checkTasksOk(t, nil)
	checkTasksOk(t, []impl.Task{})
	for size := 0; size <= 24; size++ {
		checkTasksOk(t, readyTasks(idsTo(size)...))
		checkTasksOk(t, goneTasks(idsTo(size)...))
	}
	checkNoTasks(t, readyTasks(idsTo(25)...))
	checkNoTasks(t, goneTasks(idsTo(25)...))
	// The last one that there is room for, and the next one.
	list := goneTasks(idsTo(23)...)
	for _, id := range []int64{1, 25, 47, 9999} {
		full, code := impl.Created(list, id, 5)
		if code != impl.CdOk || len(full) != 24 || !impl.TasksOk(full) {
			t.Fatalf("Created of 23: %v, %d", full, code)
		}
		for other := int64(3); other <= 101; other += 2 {
			if other == id {
				continue
			}
			checkRefused(t, created, full, other, 5, impl.CdFull)
		}
		// What is full can still be altered.
		checkTaskCall(t, changed, full, id, impl.TkBlocked)
		checkTaskCall(t, weighed, full, id, 1000000)
		if _, code := impl.Weighed(full, id, 1000000); code != impl.CdOk {
			t.Errorf("Weighed(%v, %d, 1000000): %d", full, id, code)
		}
	}
}

func TestWrongTasks(t *testing.T) {
	for _, list := range wrongTasks() {
		if wantTasksOk(list) {
			t.Fatalf("%v is right", list)
		}
		checkNoTasks(t, list)
	}
}

// orderly tells whether a list that is taken as it stands keeps the promise.
func orderly(list []impl.Task) bool {
	for i := 1; i < len(list); i++ {
		if list[i].Id <= list[i-1].Id {
			return false
		}
	}
	return impl.TasksOk(list)
}

// othersAlike holds what stands in one list and in the other, but for that Id.
func othersAlike(a []impl.Task, b []impl.Task, id int64) bool {
	others := func(list []impl.Task) []impl.Task {
		return slices.DeleteFunc(slices.Clone(list), func(task impl.Task) bool { return task.Id == id })
	}
	return slices.Equal(others(a), others(b))
}

// checkStep does one of a row, and tells its code.
func checkStep(t *testing.T, list []impl.Task, call taskCall, id int64, number int64) ([]impl.Task, int64) {
	t.Helper()
	then, code := call.ask(list, id, number)
	if !orderly(then) || !othersAlike(list, then, id) {
		t.Fatalf("%s(%v, %d, %d) = %v, %d", call.name, list, id, number, then, code)
	}
	more := 0
	if call.name == "Created" && code == impl.CdOk {
		more = 1
	}
	if len(then) != len(list)+more || code != impl.CdOk && !slices.Equal(then, list) {
		t.Fatalf("%s(%v, %d, %d) = %v, %d", call.name, list, id, number, then, code)
	}
	if code == impl.CdOk {
		want, _ := call.want(list, id, number)
		if got := then[impl.FindTask(then, id)]; !slices.Equal(then, want) || got.Id != id {
			t.Fatalf("%s(%v, %d, %d) = %v; want %v", call.name, list, id, number, then, want)
		}
	}
	if _, want := call.want(list, id, number); code != want {
		t.Fatalf("%s(%v, %d, %d): %d; want %d", call.name, list, id, number, code, want)
	}
	return then, code
}

func TestTasksStayInOrderWhateverIsDone(t *testing.T) {
	state := uint64(29)
	next := func(below int64) int64 {
		state = state*6364136223846793005 + 1442695040888963407
		return int64(state>>33) % below
	}
	codes := map[string]int{}
	for row := range 300 {
		var list []impl.Task
		most := []int64{9, 26, 40, 400, 9999}[row%5]
		for range 120 {
			call := taskCalls()[next(3)]
			id := next(most + 2)
			if len(list) > 0 && next(3) == 0 {
				id = list[next(int64(len(list)))].Id
			}
			number := next(1000004) - 1
			if call.name == "Changed" {
				number = next(12) % 5
				if next(2) == 0 {
					number = next(2) + 1
				}
			}
			then, code := checkStep(t, list, call, id, number)
			codes[call.name+string(rune('0'+code))]++
			list = then
			// Whoever had turns keeps them, whatever comes then.
			if len(list) > 0 {
				list[next(int64(len(list)))].Had = next(100000001)
			}
		}
	}
	for _, told := range []string{"Created0", "Created1", "Created3", "Created5", "Changed0", "Changed1", "Changed2", "Changed4", "Weighed0", "Weighed1", "Weighed2", "Weighed4"} {
		if codes[told] < 10 {
			t.Errorf("the rows had %s just %d times", told, codes[told])
		}
	}
	if len(codes) != 12 {
		t.Errorf("the rows had %v", codes)
	}
}

func TestTasksInAnyOrderOfIdsAreTheSame(t *testing.T) {
	ids := idsTo(24)
	want := readyTasks(ids...)
	for i := range want {
		want[i].Weight = want[i].Id * 3
	}
	for _, step := range []int{1, 5, 7, 11, 13, 17, 19, 23} {
		for first := range 24 {
			var list []impl.Task
			for k := range 24 {
				id := ids[(first+k*step)%24]
				then, code := impl.Created(list, id, id*3)
				if code != impl.CdOk || !orderly(then) {
					t.Fatalf("Created(%v, %d, %d) = %v, %d", list, id, id*3, then, code)
				}
				list = then
			}
			if !slices.Equal(list, want) {
				t.Fatalf("from %d by %d: %v", first, step, list)
			}
		}
	}
}

// eachCodeOf are calls of one list, by which each code comes that it can have.
func eachCodeOf(list []impl.Task) [][2]int64 {
	asked := [][2]int64{{0, 1}, {1, 0}, {1, 1}, {1, 2}, {1, 3}, {9999, 1}, {9998, 2}, {math.MinInt64, 1}, {1, math.MaxInt64}}
	for i := 0; i < len(list); i += 1 + len(list)/3 {
		for number := range int64(5) {
			asked = append(asked, [2]int64{list[i].Id, number}, [2]int64{list[i].Id + 1, number})
		}
	}
	return asked
}

func TestTasksLeaveTheirArgumentsAsTheyWere(t *testing.T) {
	for _, list := range append(someTasks(), wrongTasks()...) {
		given := tasksWithRoom(list)
		all := given[:len(given)+3]
		was := slices.Clone(all)
		impl.TasksOk(given)
		impl.ReadyOf(given)
		for _, asked := range eachCodeOf(list) {
			impl.FindTask(given, asked[0])
			for _, call := range taskCalls() {
				call.ask(given, asked[0], asked[1])
			}
		}
		if !slices.Equal(all, was) {
			t.Fatalf("was %v, is %v", was, all)
		}
	}
}

func TestTasksAnswersAreNewMemory(t *testing.T) {
	codes := map[string]int{}
	for k, list := range append(someTasks(), wrongTasks()...) {
		if k > 500 && k%5 != 0 {
			continue
		}
		for _, asked := range eachCodeOf(list) {
			for _, call := range taskCalls() {
				given := tasksWithRoom(list)
				all := given[:len(given)+3]
				was := slices.Clone(all)
				want, code := call.want(list, asked[0], asked[1])
				codes[call.name+string(rune('0'+code))]++
				got, _ := call.ask(given, asked[0], asked[1])
				again, _ := call.ask(given, asked[0], asked[1])
				spoilTasks(got)
				if !slices.Equal(all, was) || !slices.Equal(again, want) {
					t.Fatalf("%s(%v, %d, %d): a change of one answer is seen elsewhere", call.name, list, asked[0], asked[1])
				}
				spoilTasks(given)
				if !slices.Equal(again, want) {
					t.Fatalf("%s(%v, %d, %d): a change of the argument is seen in the answer", call.name, list, asked[0], asked[1])
				}
			}
		}
	}
	if len(codes) != 12 {
		t.Errorf("the codes were %v", codes)
	}
}

func TestReadyOfIsNewMemory(t *testing.T) {
	for _, list := range someTasks() {
		given := tasksWithRoom(list)
		want := wantReadyIds(list)
		got, again := impl.ReadyOf(given), impl.ReadyOf(given)
		spoil(got)
		if !slices.Equal(again, want) || !slices.Equal(given, list) {
			t.Fatalf("ReadyOf(%v): a change of one answer is seen elsewhere", list)
		}
		spoilTasks(given)
		if !slices.Equal(again, want) {
			t.Fatalf("ReadyOf(%v): a change of the argument is seen in the answer", list)
		}
	}
}

func TestTasksAnswerTheSameEachTime(t *testing.T) {
	for _, list := range someTasks() {
		for _, asked := range eachCodeOf(list) {
			for _, call := range taskCalls() {
				first, code := call.ask(list, asked[0], asked[1])
				second, codeAgain := call.ask(tasksWithRoom(list), asked[0], asked[1])
				if code != codeAgain || !slices.Equal(first, second) {
					t.Fatalf("%s(%v, %d, %d) = %v, %d and %v, %d", call.name, list, asked[0], asked[1], first, code, second, codeAgain)
				}
			}
		}
	}
}
