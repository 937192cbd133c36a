package tests

import (
	"cmp"
	"math"
	"testing"

	"loop.example/g00763/impl"
)

// turn is the turn at of a share.
type turn struct {
	share impl.Share
	at    int64
}

func turnOf(num, den, at int64) turn { return turn{shareOf(num, den), at} }

func ahead(a turn, b turn) int64 { return impl.AheadOf(a.share, a.at, b.share, b.at) }

// checkAhead holds what is answered, and that it is just the opposite the other way round.
func checkAhead(t *testing.T, a turn, b turn, want int64) {
	t.Helper()
	if got := ahead(a, b); got != want {
		t.Errorf("AheadOf(%v, %v) = %d; want %d", a, b, got, want)
	}
	if got := ahead(b, a); got != -want {
		t.Errorf("AheadOf(%v, %v) = %d; want %d", b, a, got, -want)
	}
}

// checkNoRank is of two of which at least one is wrong.
func checkNoRank(t *testing.T, a turn, b turn) {
	t.Helper()
	if got := ahead(a, b); got != 2 {
		t.Errorf("AheadOf(%v, %v) = %d; want 2", a, b, got)
	}
	if got := ahead(b, a); got != 2 {
		t.Errorf("AheadOf(%v, %v) = %d; want 2", b, a, got)
	}
}

// wantRank is when a right turn is due, whether it overlaps, and where its chain ends,
// by the words of chapters 4 and 5: right ones are far from where int64 wraps round.
func wantRank(a turn) (int64, int64, int64) {
	num, den := a.share.Num, a.share.Den
	up := func(x int64, y int64) int64 { return (x + y - 1) / y }
	due, overlaps, end := up(a.at*den, num), int64(0), int64(0)
	if a.at*den/num < due {
		overlaps = 1
	}
	if 2*num >= den && num < den {
		end = up(up(due*(den-num), den)*den, den-num)
	}
	return due, overlaps, end
}

func rightTurn(a turn) bool {
	num, den := a.share.Num, a.share.Den
	return den >= 1 && den <= impl.MaxDen && num >= 1 && num <= den && a.at >= 1 && a.at <= impl.MaxTime
}

// wantAhead is by the document's words, rule by rule.
func wantAhead(a turn, b turn) int64 {
	if !rightTurn(a) || !rightTurn(b) {
		return 2
	}
	aDue, aOverlaps, aEnd := wantRank(a)
	bDue, bOverlaps, bEnd := wantRank(b)
	if aDue != bDue {
		return int64(cmp.Compare(bDue, aDue))
	}
	if aOverlaps == 1 && bOverlaps == 1 {
		return int64(cmp.Compare(aEnd, bEnd))
	}
	return aOverlaps - bOverlaps
}

// smallTurns are all of a small Den: many of them are due at once.
func smallTurns() []turn {
	var list []turn
	for den := int64(1); den <= 9; den++ {
		for num := int64(1); num <= den; num++ {
			for at := int64(1); at <= 10; at++ {
				list = append(list, turnOf(num, den, at))
			}
		}
	}
	return list
}

// lateTurns are at the limits: the first and last turns of shares of every kind, those of
// a great Den above all. Some of them are due at once.
func lateTurns() []turn {
	var list []turn
	for _, den := range []int64{1, 2, 3, 4, 7, 997, impl.MaxTime + 1, impl.MaxDen - 2, impl.MaxDen - 1, impl.MaxDen} {
		half := (den + 1) / 2
		for _, num := range []int64{1, 2, 3, half - 1, half, half + 1, half + 2, den - 2, den - 1, den} {
			for _, at := range []int64{1, 2, 3, impl.MaxTime / 2, impl.MaxTime - 1, impl.MaxTime} {
				if one := turnOf(num, den, at); rightTurn(one) {
					list = append(list, one)
				}
			}
		}
	}
	return list
}

// turnsDueAt are all right turns of some shares that are due at that time.
func turnsDueAt(due int64, shares []impl.Share) []turn {
	var list []turn
	for _, s := range shares {
		// The last turn that is over by then.
		at := due * s.Num / s.Den
		for _, one := range []turn{{s, at}, {s, at + 1}} {
			if !rightTurn(one) {
				continue
			}
			if then, _, _ := wantRank(one); then == due {
				list = append(list, one)
			}
		}
	}
	return list
}

func TestRanksDueEarlierGoesFirst(t *testing.T) {
	checkAhead(t, turnOf(3, 4, 1), turnOf(3, 4, 2), 1)  // due at 2 and 3
	checkAhead(t, turnOf(1, 3, 1), turnOf(1, 4, 1), 1)  // 3 and 4
	checkAhead(t, turnOf(1, 1, 1), turnOf(1, 2, 1), 1)  // 1 and 2
	checkAhead(t, turnOf(1, 5, 2), turnOf(1, 1, 11), 1) // 10 and 11

	// Whether it overlaps, and how late its chain ends, does not count then.
	checkAhead(t, turnOf(1, 2, 1), turnOf(3, 4, 2), 1)    // 2, no; 3, yes
	checkAhead(t, turnOf(1, 1, 1), turnOf(99, 100, 1), 1) // 1, no; 2, yes, to 100
	checkAhead(t, turnOf(3, 7, 1), turnOf(5, 7, 3), 1)    // 3, yes, light; 5, yes, to 7
	checkAhead(t, turnOf(3, 5, 1), turnOf(4, 5, 2), 1)    // 2, yes, to 3; 3, yes, to 5
	checkAhead(t, turnOf(2, 3, 2), turnOf(3, 5, 2), 1)    // 3, no; 4, yes
	checkAhead(t, turnOf(1, 3, 1), turnOf(3, 4, 3), 1)    // 3, no, light; 4, no, to 4
}

func TestRanksDueAtOnceOneThatOverlapsGoesFirst(t *testing.T) {
	checkAhead(t, turnOf(3, 4, 1), turnOf(1, 2, 1), 1) // due at 2; heavy, and a half that never overlaps
	checkAhead(t, turnOf(3, 4, 1), turnOf(1, 1, 2), 1) // heavy and whole
	checkAhead(t, turnOf(2, 5, 1), turnOf(1, 3, 1), 1) // due at 3; light both
	checkAhead(t, turnOf(2, 5, 1), turnOf(1, 1, 3), 1) // light and whole
	checkAhead(t, turnOf(2, 3, 3), turnOf(1, 5, 1), 1) // due at 5; heavy and light

	// A light one has no chain, and goes first all the same where the heavy one does not overlap.
	checkAhead(t, turnOf(2, 5, 1), turnOf(2, 3, 2), 1) // due at 3; that chain ends at 3
	checkAhead(t, turnOf(3, 7, 1), turnOf(2, 3, 2), 1)
	checkAhead(t, turnOf(4, 9, 3), turnOf(6, 7, 6), 1) // due at 7; that chain ends at 7
}

func TestRanksDueAtOnceAndNoneOverlaps(t *testing.T) {
	// Due at 2: chains that end at 2 and at 2, and whole ones without any.
	checkAhead(t, turnOf(1, 2, 1), turnOf(1, 1, 2), 0)
	checkAhead(t, turnOf(1, 2, 1), turnOf(7, 7, 2), 0)
	checkAhead(t, turnOf(1, 1, 2), turnOf(7, 7, 2), 0)
	// Due at 3, at 4, and at 6: a heavy one whose chain ends there, a light one and a whole one without any.
	for _, c := range [][]turn{
		{turnOf(2, 3, 2), turnOf(1, 3, 1), turnOf(1, 1, 3)},
		{turnOf(3, 4, 3), turnOf(1, 4, 1), turnOf(1, 2, 2), turnOf(5, 5, 4)},
		{turnOf(5, 6, 5), turnOf(1, 6, 1), turnOf(1, 3, 2), turnOf(2, 3, 4), turnOf(1, 2, 3), turnOf(1, 1, 6)},
	} {
		for _, a := range c {
			for _, b := range c {
				checkAhead(t, a, b, 0)
			}
		}
	}
}

func TestRanksDueAtOnceAndBothOverlapTheLaterChainGoesFirst(t *testing.T) {
	// Due at 2: chains that end at 3, 4, 5, 6, 7, 100.
	list := []turn{turnOf(2, 3, 1), turnOf(3, 4, 1), turnOf(4, 5, 1), turnOf(5, 6, 1), turnOf(6, 7, 1), turnOf(99, 100, 1)}
	for i, a := range list {
		for j, b := range list {
			checkAhead(t, a, b, int64(cmp.Compare(i, j)))
		}
	}
	checkAhead(t, turnOf(5, 7, 3), turnOf(2, 3, 3), 1)  // due at 5; to 7 and to 6
	checkAhead(t, turnOf(5, 9, 2), turnOf(7, 8, 3), -1) // due at 4; to 5 and to 8

	// To the same end: neither, though one share is greater.
	checkAhead(t, turnOf(3, 4, 1), turnOf(5, 7, 1), 0) // due at 2, to 4
	checkAhead(t, turnOf(3, 4, 1), turnOf(8, 11, 1), 0)
	checkAhead(t, turnOf(2, 3, 1), turnOf(3, 5, 1), 0) // to 3
	checkAhead(t, turnOf(3, 5, 2), turnOf(5, 9, 2), 0) // due at 4, to 5
}

func TestRanksOfLightOnesThatOverlap(t *testing.T) {
	// Due at 3: a light one has no chain, so that any heavy one goes ahead, and of light ones neither does.
	light := []turn{turnOf(2, 5, 1), turnOf(3, 7, 1), turnOf(3, 8, 1), turnOf(4, 9, 1), turnOf(impl.MaxDen/2-1, impl.MaxDen, 1)}
	heavy := []turn{turnOf(3, 4, 2), turnOf(4, 5, 2), turnOf(5, 7, 2), turnOf(impl.MaxDen-1, impl.MaxDen, 2)}
	for _, a := range light {
		for _, b := range light {
			checkAhead(t, a, b, 0)
		}
		for _, b := range heavy {
			checkAhead(t, a, b, -1)
		}
	}
}

func TestRanksOfOneShareInOtherTerms(t *testing.T) {
	for _, s := range []impl.Share{shareOf(1, 1), shareOf(1, 2), shareOf(2, 3), shareOf(3, 4), shareOf(8, 11), shareOf(3, 7), shareOf(1, 5)} {
		for _, times := range []int64{2, 3, 10, impl.MaxDen / s.Den} {
			other := shareOf(s.Num*times, s.Den*times)
			for _, i := range manyTurns() {
				checkAhead(t, turn{s, i}, turn{other, i}, 0)
				for _, j := range manyTurns() {
					checkAhead(t, turn{s, i}, turn{other, j}, int64(cmp.Compare(j, i)))
				}
			}
		}
	}
}

func TestRanksOfOneShareAreItsTurnsInOrder(t *testing.T) {
	for _, s := range append(manyShares(), heavyShares()...) {
		for _, i := range manyTurns() {
			for _, j := range manyTurns() {
				if got, want := impl.AheadOf(s, i, s, j), int64(cmp.Compare(j, i)); got != want {
					t.Fatalf("AheadOf(%v, %d and %d) = %d; want %d", s, i, j, got, want)
				}
			}
		}
	}
}

func TestRanksAtTheLimits(t *testing.T) {
	const most, last = impl.MaxDen, impl.MaxTime
	checkAhead(t, turnOf(1, 1, 1), turnOf(1, 1, 1), 0)
	checkAhead(t, turnOf(1, 1, 1), turnOf(most, most, 1), 0)
	checkAhead(t, turnOf(1, 1, last), turnOf(most, most, last), 0)
	checkAhead(t, turnOf(1, 1, last), turnOf(1, most, 1), 1)    // due at MaxTime and at MaxDen
	checkAhead(t, turnOf(1, most, 1), turnOf(1, most-1, 1), -1) // at MaxDen and one ahead of it

	// Due at 2, to MaxDen and to one ahead of it.
	checkAhead(t, turnOf(most-1, most, 1), turnOf(most-2, most-1, 1), 1)
	checkAhead(t, turnOf(most-1, most, 1), turnOf(most-2, most, 1), 1)
	checkAhead(t, turnOf(most/2+1, most, 1), turnOf(2, 3, 1), 0)
	checkAhead(t, turnOf(most/2+1, most, 1), turnOf(3, 4, 1), -1)
	checkAhead(t, turnOf(most/2+1, most, 1), turnOf(most/2, most, 1), 1)
	checkAhead(t, turnOf(most/2, most, 1), turnOf(1, 2, 1), 0)

	// Due one past MaxTime; the chains end at MaxDen, one ahead of that, and at half of it.
	checkAhead(t, turnOf(most-1, most, last), turnOf(most-2, most-1, last), 1)
	checkAhead(t, turnOf(most-2, most-1, last), turnOf(most-2, most, last), 1)
	checkAhead(t, turnOf(most-1, most, last), turnOf(1, 1, last), -1)
	checkAhead(t, turnOf(most-1, most, last-1), turnOf(1, 1, last), 1) // both at MaxTime

	// Due at twice MaxTime: it overlaps, and a half does not; two to the same end.
	checkAhead(t, turnOf(most/2+1, most, last), turnOf(1, 2, last), 1)
	checkAhead(t, turnOf(most/2+1, most, last), turnOf(most/2, most-1, last), 0)
	checkAhead(t, turnOf(most/2-1, most, last), turnOf(1, 2, last), -1)
}

func TestRanksOfTheLatestTurns(t *testing.T) {
	const most, last = impl.MaxDen, impl.MaxTime
	checkAhead(t, turnOf(1, most, last), turnOf(1, most, last), 0) // due at 100000000000000
	checkAhead(t, turnOf(1, most, last), turnOf(1, most, last-1), -1)
	checkAhead(t, turnOf(1, most, last), turnOf(1, most-1, last), -1)
	checkAhead(t, turnOf(1, most, last), turnOf(2, most, last), -1)
	checkAhead(t, turnOf(1, most, last), turnOf(most, most, last), -1)
	// Due at 50000000000000; none overlaps.
	checkAhead(t, turnOf(2, most, last), turnOf(1, most, last/2), 0)
	checkAhead(t, turnOf(2, most, last), turnOf(1, most/2, last), 0)
	// Due at 33333333333334; both overlap, and are light.
	checkAhead(t, turnOf(3, most, last), turnOf(2, 95273891, 699737), 0)
	// Due at 33333299666667; the first one does not overlap.
	checkAhead(t, turnOf(1, most-1, 333333), turnOf(3, 99999899, last), -1)
	// These differ by just as much as 32 bits hold.
	checkAhead(t, turnOf(1, 1<<26, 1), turnOf(1, 1<<26, 1+1<<6), 1)
}

func TestRanksOfTheLastTurn(t *testing.T) {
	// There is no turn behind MaxTime, but when it would be ready is told: this one overlaps it. Due at 2333334.
	checkAhead(t, turnOf(3, 7, impl.MaxTime), turnOf(1, 3, 777778), 1)
	checkAhead(t, turnOf(3, 7, impl.MaxTime), turnOf(3, 7, impl.MaxTime), 0)
	// Due at 1333334; the heavy one overlaps.
	checkAhead(t, turnOf(3, 4, impl.MaxTime), turnOf(1, 2, 666667), 1)
}

func TestRanksAreByTheirWords(t *testing.T) {
	// Each rule has to decide somewhere here, both ways, or it would not be tested.
	decided := map[[2]int64]int{}
	list := append(smallTurns(), lateTurns()...)
	for _, a := range list {
		for _, b := range list {
			want := wantAhead(a, b)
			if got := ahead(a, b); got != want {
				t.Fatalf("AheadOf(%v, %v) = %d; want %d", a, b, got, want)
			}
			aDue, aOverlaps, _ := wantRank(a)
			bDue, bOverlaps, _ := wantRank(b)
			rule := aOverlaps + bOverlaps
			if aDue != bDue {
				rule = 3
			}
			decided[[2]int64{rule, want}]++
		}
	}
	for _, c := range [][2]int64{{0, 0}, {1, 1}, {1, -1}, {2, 0}, {2, 1}, {2, -1}, {3, 1}, {3, -1}} {
		if decided[c] == 0 {
			t.Errorf("no two turns of which rule %d tells %d", c[0], c[1])
		}
		delete(decided, c)
	}
	if len(decided) > 0 {
		t.Errorf("rules told what they can't: %v", decided)
	}
}

func TestRanksOfTurnsDueAtOnceAreByTheirWords(t *testing.T) {
	shares := append(append(manyShares(), heavyShares()...), lightShares()...)
	for _, due := range []int64{1, 2, 3, 7, 30, 997, 65536, impl.MaxTime, impl.MaxTime + 1, 2 * impl.MaxTime, impl.MaxDen, 10 * impl.MaxDen} {
		list := turnsDueAt(due, shares)
		if len(list) < 2 {
			t.Fatalf("%d are due at %d", len(list), due)
		}
		for _, a := range list {
			for _, b := range list {
				if got, want := ahead(a, b), wantAhead(a, b); got != want {
					t.Fatalf("due at %d: AheadOf(%v, %v) = %d; want %d", due, a, b, got, want)
				}
			}
		}
	}
}

// checkOrder holds that ranks are an order of these: of any two one goes ahead, or
// neither; what goes ahead of another, or neither does, never comes behind a third
// one that the other goes ahead of, or neither does.
func checkOrder(t *testing.T, list []turn) {
	t.Helper()
	told := make([][]int64, len(list))
	for i, a := range list {
		told[i] = make([]int64, len(list))
		for j, b := range list {
			told[i][j] = ahead(a, b)
			if told[i][j] < -1 || told[i][j] > 1 {
				t.Fatalf("AheadOf(%v, %v) = %d", a, b, told[i][j])
			}
		}
	}
	for i, a := range list {
		if told[i][i] != 0 {
			t.Fatalf("AheadOf(%v, the same) = %d; want 0", a, told[i][i])
		}
		for j, b := range list {
			if told[i][j] != -told[j][i] {
				t.Fatalf("AheadOf of %v and %v is %d, the other way round %d", a, b, told[i][j], told[j][i])
			}
			if told[i][j] < 0 {
				continue
			}
			for k, c := range list {
				if told[j][k] >= 0 && told[k][i] > 0 {
					t.Fatalf("%v goes ahead of %v though that one does not come behind %v, nor that one behind it", c, a, b)
				}
			}
		}
	}
}

func TestRanksAreAnOrder(t *testing.T) {
	checkOrder(t, smallTurns())
	checkOrder(t, lateTurns())
	shares := append(append(manyShares(), heavyShares()...), lightShares()...)
	for _, due := range []int64{2, 3, 5, 12, 997, impl.MaxTime, 2 * impl.MaxTime} {
		checkOrder(t, turnsDueAt(due, shares))
	}
}

func TestRanksOfWrongShares(t *testing.T) {
	right := []turn{turnOf(1, 1, 1), turnOf(3, 4, 2), turnOf(2, 5, 3), turnOf(1, impl.MaxDen, impl.MaxTime)}
	wrong := wrongShares()
	for n, s := range wrong {
		for _, j := range append(wrongTurns(), 1, 2, impl.MaxTime) {
			for _, a := range right {
				checkNoRank(t, turn{s, j}, a)
			}
			checkNoRank(t, turn{s, j}, turn{s, j})
			checkNoRank(t, turn{s, j}, turn{wrong[(n+1)%len(wrong)], 1})
			checkNoRank(t, turn{s, j}, turnOf(3, 4, 0))
		}
	}
}

func TestRanksOfWrongTurns(t *testing.T) {
	for _, s := range append(append(manyShares(), heavyShares()...), lightShares()...) {
		for _, j := range wrongTurns() {
			checkNoRank(t, turn{s, j}, turnOf(3, 4, 1))
			checkNoRank(t, turn{s, j}, turn{s, 1})
			checkNoRank(t, turn{s, j}, turn{s, impl.MaxTime})
			checkNoRank(t, turn{s, j}, turn{s, j})
			checkNoRank(t, turn{s, j}, turnOf(0, 4, 1))
		}
	}
}

func TestRanksOnePastEachLimit(t *testing.T) {
	right := turnOf(impl.MaxDen, impl.MaxDen, impl.MaxTime)
	checkAhead(t, right, turnOf(1, 1, 1), -1)
	for _, wrong := range []turn{
		turnOf(0, impl.MaxDen, impl.MaxTime), turnOf(impl.MaxDen+1, impl.MaxDen, impl.MaxTime),
		turnOf(impl.MaxDen, impl.MaxDen+1, impl.MaxTime), turnOf(impl.MaxDen, impl.MaxDen, impl.MaxTime+1),
		turnOf(impl.MaxDen, impl.MaxDen, 0), turnOf(1, 0, 1), turnOf(0, 0, 1), turnOf(0, 1, 1), turnOf(2, 1, 1), turnOf(1, 1, 0),
	} {
		checkNoRank(t, wrong, right)
		checkNoRank(t, wrong, turnOf(1, 1, 1))
		checkNoRank(t, wrong, wrong)
	}
}

func TestRanksOfAnyNumbers(t *testing.T) {
	// The least and the greatest ones in every place, alone and together, beside those at the limits.
	var list []turn
	some := []int64{math.MinInt64, -1, 0, 1, 2, impl.MaxTime, impl.MaxTime + 1, impl.MaxDen, impl.MaxDen + 1, math.MaxInt64}
	for _, num := range some {
		for _, den := range some {
			for _, at := range some {
				list = append(list, turnOf(num, den, at))
			}
		}
	}
	for _, a := range list {
		for _, b := range list {
			if got, want := ahead(a, b), wantAhead(a, b); got != want {
				t.Fatalf("AheadOf(%v, %v) = %d; want %d", a, b, got, want)
			}
		}
	}
}

func TestRanksOfSeveralTurnsDoNotMix(t *testing.T) {
	a, b := turnOf(3, 4, 1), turnOf(2, 3, 1)
	for range 3 {
		checkAhead(t, a, b, 1)
		checkNoRank(t, a, turnOf(0, 4, 1))
		checkAhead(t, a, turnOf(1, 2, 1), 1)
		checkAhead(t, turnOf(1, 2, 1), turnOf(1, 1, 2), 0)
		checkNoRank(t, turnOf(3, 4, 0), b)
		checkAhead(t, b, turnOf(4, 5, 1), -1)
	}
	if a != turnOf(3, 4, 1) || b != turnOf(2, 3, 1) {
		t.Fatal(a, b)
	}
}
