package tests

import (
	"math"
	"math/rand"
	"slices"
	"testing"

	"loop.example/g00315/impl"
)

// plainEarliest asks all contacts again and again till nobody is reached earlier any more; -1 where nobody is.
func plainEarliest(l []impl.Contact, from int, at int) []int {
	times := slices.Repeat([]int{-1}, 8)
	times[from] = at
	for changed := true; changed; {
		changed = false
		for _, c := range l {
			when, ok := plainPass(c, times[c.From])
			if times[c.From] >= 0 && ok && (times[c.To] < 0 || when < times[c.To]) {
				times[c.To], changed = when, true
			}
		}
	}
	return times
}

// plainEachRow goes over all rows of at most as many contacts as there are, whether they are of use or not.
func plainEachRow(l []impl.Contact, from int, at int) []int {
	times := slices.Repeat([]int{-1}, 8)
	var over []int
	var more func()
	more = func() {
		to, when, ok := plainArrive(l, from, at, over)
		if ok && (times[to] < 0 || when < times[to]) {
			times[to] = when
		}
		if len(over) == len(l) {
			return
		}
		for k := range l {
			over = append(over, k)
			more()
			over = over[:len(over)-1]
		}
	}
	more()
	return times
}

// plainRoute follows the document's words: what can be taken is gathered, the earliest of it is taken, the last contacts are noted.
func plainRoute(l []impl.Contact, from int, at int, to int) ([]int, int, bool) {
	times, notes := slices.Repeat([]int{-1}, 8), make([]int, 8)
	times[from] = at
	for {
		type taking struct{ when, k int }
		var can []taking
		for k, c := range l {
			when, ok := plainPass(c, times[c.From])
			if times[c.From] >= 0 && ok && (times[c.To] < 0 || when < times[c.To]) {
				can = append(can, taking{when, k})
			}
		}
		if len(can) == 0 {
			break
		}
		best := slices.MinFunc(can, func(a, b taking) int { return (a.when-b.when)*100 + a.k - b.k })
		times[l[best.k].To], notes[l[best.k].To] = best.when, best.k
	}
	if times[to] < 0 {
		return nil, 0, false
	}
	var row []int
	for node := to; node != from; node = l[notes[node]].From {
		row = slices.Insert(row, 0, notes[node])
	}
	return row, times[to], true
}

// checkFrom asks EarliestFrom and RouteTo from a node at a time, as said or not.
func checkFrom(t *testing.T, l []impl.Contact, from int, at int) []int {
	t.Helper()
	plan := slices.Clone(l)
	can := plainPlan(l) && plainNode(from) && plainWhen(at)
	var want []int
	if can {
		want = plainEarliest(l, from, at)
	}
	times, ok := impl.EarliestFrom(l, from, at)
	if !slices.Equal(times, want) || ok != can {
		t.Fatalf("EarliestFrom(%v, %d, %d) = %v, %v, not %v, %v", l, from, at, times, ok, want, can)
	}
	for _, to := range edgeNodes() {
		var route []int
		when, leads := 0, false
		if can && plainNode(to) {
			route, when, leads = plainRoute(l, from, at, to)
		}
		row, told, ok := impl.RouteTo(l, from, at, to)
		if !slices.Equal(row, route) || told != when || ok != leads {
			t.Fatalf("RouteTo(%v, %d, %d, %d) = %v, %d, %v, not %v, %d, %v", l, from, at, to, row, told, ok, route, when, leads)
		}
		if ok && told != times[to] || ok != (can && plainNode(to) && times[to] >= 0) {
			t.Fatalf("RouteTo(%v, %d, %d, %d) = %v, %d, %v where EarliestFrom told %v", l, from, at, to, row, told, ok, times)
		}
		if ok {
			wantArrive(t, l, from, at, row, told)
			wantUses(t, l, row, true)
		}
	}
	if !slices.Equal(l, plan) {
		t.Fatalf("written into: %v, once %v", l, plan)
	}
	return times
}

// plainStarts are, for each time, the earliest times from a node; none where the plan isn't good.
func plainStarts(l []impl.Contact, from int) [][]int {
	var starts [][]int
	for at := 0; at <= 1000 && plainPlan(l) && plainNode(from); at++ {
		starts = append(starts, plainEarliest(l, from, at))
	}
	return starts
}

// checkLatest asks LatestFor, and holds it against all starts; these are plainStarts of from.
func checkLatest(t *testing.T, l []impl.Contact, starts [][]int, from int, to int, by int) {
	t.Helper()
	plan := slices.Clone(l)
	want, can := 0, false
	if plainNode(to) && by >= 0 && by <= 2000 {
		for at, times := range starts {
			if times[to] >= 0 && times[to] <= by {
				want, can = at, true
			}
		}
	}
	got, ok := impl.LatestFor(l, from, to, by)
	if got != want || ok != can {
		t.Fatalf("LatestFor(%v, %d, %d, %d) = %d, %v, not %d, %v", l, from, to, by, got, ok, want, can)
	}
	if !slices.Equal(l, plan) {
		t.Fatalf("written into: %v, once %v", l, plan)
	}
}

// wantLatest asks that one who starts then is in time, and one who starts one later is not.
func wantLatest(t *testing.T, l []impl.Contact, from int, to int, by int, want int) {
	t.Helper()
	checkLatest(t, l, plainStarts(l, from), from, to, by)
	got, ok := impl.LatestFor(l, from, to, by)
	if got != want || !ok {
		t.Errorf("LatestFor(%v, %d, %d, %d) = %d, %v, not %d", l, from, to, by, got, ok, want)
		return
	}
	if _, when, ok := impl.RouteTo(l, from, got, to); !ok || when > by {
		t.Errorf("who starts at %d is at %d at %d, %v, not by %d", got, to, when, ok, by)
	}
	if _, when, ok := impl.RouteTo(l, from, got+1, to); ok && when <= by {
		t.Errorf("who starts at %d, one later, is at %d at %d, by %d", got+1, to, when, by)
	}
}

func wantNoLatest(t *testing.T, what string, l []impl.Contact, from int, to int, by int) {
	t.Helper()
	checkLatest(t, l, plainStarts(l, from), from, to, by)
	if got, ok := impl.LatestFor(l, from, to, by); got != 0 || ok {
		t.Errorf("%s: LatestFor(%v, %d, %d, %d) = %d, %v", what, l, from, to, by, got, ok)
	}
}

// askEverything asks all functions of a plan, good or not, at all nodes and times where something changes, and at wrong ones.
func askEverything(t *testing.T, l []impl.Contact) {
	t.Helper()
	if ok := impl.GoodPlan(l); ok != plainPlan(l) {
		t.Fatalf("GoodPlan(%v) = %v", l, ok)
	}
	times := edgeTimes(l)
	for _, at := range times {
		checkOpen(t, l, at)
	}
	for _, from := range edgeNodes() {
		starts := plainStarts(l, from)
		for _, at := range times {
			checkFrom(t, l, from, at)
			checkArrive(t, l, from, at, nil)
			checkArrive(t, l, from, at, []int{0})
			for _, to := range edgeNodes() {
				checkLatest(t, l, starts, from, to, at)
			}
		}
	}
}

func wantEarliest(t *testing.T, l []impl.Contact, from int, at int, want ...int) {
	t.Helper()
	if got := checkFrom(t, l, from, at); !slices.Equal(got, want) {
		t.Errorf("EarliestFrom(%v, %d, %d) = %v, not %v", l, from, at, got, want)
	}
}

func wantRoute(t *testing.T, l []impl.Contact, from int, at int, to int, when int, over ...int) {
	t.Helper()
	checkFrom(t, l, from, at)
	if row, told, ok := impl.RouteTo(l, from, at, to); !slices.Equal(row, over) || told != when || !ok {
		t.Errorf("RouteTo(%v, %d, %d, %d) = %v, %d, %v, not %v, %d", l, from, at, to, row, told, ok, over, when)
	}
}

func wantNoRoute(t *testing.T, what string, l []impl.Contact, from int, at int, to int) {
	t.Helper()
	checkFrom(t, l, from, at)
	if row, told, ok := impl.RouteTo(l, from, at, to); len(row) != 0 || told != 0 || ok {
		t.Errorf("%s: RouteTo(%v, %d, %d, %d) = %v, %d, %v", what, l, from, at, to, row, told, ok)
	}
}

func TestEarliestKnown(t *testing.T) {
	l := someLate()
	wantEarliest(t, l, 0, 0, 0, 7, 21, 121, -1, -1, -1, -1)
	wantEarliest(t, l, 0, 9, 9, 11, 21, 121, -1, -1, -1, -1)
	wantEarliest(t, l, 0, 10, 10, -1, 40, -1, -1, -1, -1, -1)
	wantEarliest(t, l, 0, 50, 50, -1, -1, -1, -1, -1, -1, -1)
	wantEarliest(t, l, 1, 6, 15, 6, 7, 107, -1, -1, -1, -1)
	wantEarliest(t, l, 1, 7, 26, 7, 21, 121, -1, -1, -1, -1)
	wantEarliest(t, l, 2, 0, 15, -1, 0, 100, 100, -1, -1, -1)
	wantEarliest(t, l, 2, 1, 15, -1, 1, 101, -1, -1, -1, -1)
	wantEarliest(t, l, 4, 999, -1, -1, -1, 1002, 999, -1, -1, -1)
	wantEarliest(t, l, 7, 1000, -1, -1, -1, -1, -1, -1, -1, 1000)
	askEverything(t, l)
}

func TestRouteKnown(t *testing.T) {
	l := someLate()
	wantRoute(t, l, 0, 0, 1, 7, 0)
	wantRoute(t, l, 0, 0, 2, 21, 0, 2)
	wantRoute(t, l, 0, 0, 3, 121, 0, 2, 5)
	wantRoute(t, l, 0, 10, 2, 40, 3)
	wantRoute(t, l, 1, 6, 0, 15, 1, 4)
	wantRoute(t, l, 2, 0, 4, 100, 5, 6)
	wantRoute(t, l, 4, 999, 3, 1002, 7)
	wantNoRoute(t, "one time late", l, 2, 1, 4)
	wantNoRoute(t, "at End", l, 0, 10, 1)
	wantNoRoute(t, "all ended", l, 0, 50, 2)
	wantNoRoute(t, "only the other way", l, 3, 0, 2)
	wantNoRoute(t, "nobody reaches it", l, 0, 0, 7)
	wantNoRoute(t, "it meets nobody", l, 7, 0, 0)
}

func TestEarliestIsNotTheFirstToLeave(t *testing.T) {
	l := []impl.Contact{meets(0, 1, 0, 100, 90), meets(0, 2, 10, 100, 5), meets(2, 1, 0, 100, 6), meets(1, 3, 20, 22, 0), meets(1, 3, 80, 100, 0)}
	wantRoute(t, l, 0, 0, 1, 21, 1, 2)
	wantRoute(t, l, 0, 0, 3, 21, 1, 2, 3)
	wantRoute(t, l, 0, 10, 3, 21, 1, 2, 3)
	wantRoute(t, l, 0, 11, 3, 80, 1, 2, 4)
	wantRoute(t, l, 0, 89, 1, 100, 1, 2)
	wantRoute(t, l, 0, 94, 1, 105, 1, 2)
	wantRoute(t, l, 0, 95, 1, 185, 0)
	wantLatest(t, l, 0, 3, 21, 10)
	wantLatest(t, l, 0, 3, 22, 10)
	wantLatest(t, l, 0, 3, 79, 10)
	wantLatest(t, l, 0, 3, 80, 69)
	askEverything(t, l)
}

func TestReachedAtTheSameTime(t *testing.T) {
	wantRoute(t, []impl.Contact{meets(0, 1, 0, 10, 5), meets(0, 1, 0, 20, 5)}, 0, 0, 1, 5, 0)
	wantRoute(t, []impl.Contact{meets(0, 1, 0, 20, 6), meets(0, 1, 4, 10, 1), meets(0, 1, 5, 9, 0)}, 0, 0, 1, 5, 1)
	two := []impl.Contact{meets(2, 3, 0, 9, 1), meets(1, 3, 0, 9, 1), meets(0, 1, 0, 9, 2), meets(0, 2, 0, 9, 2)}
	wantRoute(t, two, 0, 0, 3, 3, 3, 0)
	two[0], two[1] = two[1], two[0]
	wantRoute(t, two, 0, 0, 3, 3, 2, 0)
	late := []impl.Contact{meets(2, 3, 0, 9, 0), meets(1, 3, 0, 9, 1), meets(0, 1, 0, 9, 2), meets(0, 2, 0, 9, 3)}
	wantRoute(t, late, 0, 0, 3, 3, 2, 1)
	direct := []impl.Contact{meets(1, 2, 0, 9, 0), meets(0, 1, 0, 9, 0), meets(0, 2, 0, 9, 0)}
	wantRoute(t, direct, 0, 0, 2, 0, 1, 0)
	wantRoute(t, []impl.Contact{direct[2], direct[1], direct[0]}, 0, 0, 2, 0, 0)
	wantRoute(t, []impl.Contact{direct[1], direct[2], direct[0]}, 0, 0, 2, 0, 1)
	wait := []impl.Contact{meets(0, 2, 7, 9, 0), meets(0, 1, 0, 9, 0), meets(1, 2, 7, 8, 0)}
	wantRoute(t, wait, 0, 0, 2, 7, 0)
	wantRoute(t, []impl.Contact{wait[2], wait[1], wait[0]}, 0, 0, 2, 7, 1, 0)
	for _, l := range [][]impl.Contact{two, late, direct, wait} {
		askEverything(t, l)
	}
}

func TestFromOneToItself(t *testing.T) {
	l := []impl.Contact{meets(0, 1, 0, 1000, 0), meets(1, 0, 0, 1000, 0), meets(1, 0, 5, 6, 3)}
	for _, at := range []int{0, 1, 5, 999, 1000} {
		for node := range 8 {
			wantRoute(t, l, node, at, node, at)
			if times := checkFrom(t, l, node, at); times[node] != at {
				t.Errorf("from %d at %d: %v", node, at, times)
			}
			wantLatest(t, l, node, node, at, at)
			wantLatest(t, l, node, node, at+1000, 1000)
		}
	}
	wantLatest(t, l, 3, 3, 1001, 1000)
}

func TestPlanOfMaxContacts(t *testing.T) {
	var l []impl.Contact
	for node := range 7 { // to each next one, the slow way ahead of the quick one
		l = append(l, meets(node, node+1, 0, 1000, 10), meets(node, node+1, 0, 1000, 3))
	}
	for node := 1; node <= 6; node++ { // and back
		l = append(l, meets(node, node-1, 0, 1000, 0))
	}
	if len(l) != impl.MaxContacts {
		t.Fatal(len(l))
	}
	wantEarliest(t, l, 0, 2, 2, 5, 8, 11, 14, 17, 20, 23)
	wantRoute(t, l, 0, 0, 7, 21, 1, 3, 5, 7, 9, 11, 13)
	wantRoute(t, l, 6, 999, 0, 999, 19, 18, 17, 16, 15, 14)
	wantNoRoute(t, "7 meets nobody", l, 7, 0, 6)
	wantLatest(t, l, 0, 7, 1000, 979)
	wantLatest(t, l, 0, 7, 2000, 981)
	wantLatest(t, l, 0, 7, 1001, 980)
	wantLatest(t, l, 0, 7, 21, 0)
	wantNoLatest(t, "one too early", l, 0, 7, 20)
	askEverything(t, l)
	askEverything(t, backwardsPlan(l))
}

func backwardsPlan(l []impl.Contact) []impl.Contact {
	l = slices.Clone(l)
	slices.Reverse(l)
	return l
}

func TestLatestKnown(t *testing.T) {
	l := someLate()
	wantLatest(t, l, 0, 1, 7, 5)
	wantLatest(t, l, 0, 1, 8, 6)
	wantLatest(t, l, 0, 1, 10, 8)
	wantLatest(t, l, 0, 1, 11, 9)
	wantLatest(t, l, 0, 1, 12, 9)
	wantLatest(t, l, 0, 1, 2000, 9)
	wantLatest(t, l, 0, 2, 21, 9)
	wantLatest(t, l, 0, 2, 39, 9)
	wantLatest(t, l, 0, 2, 40, 40)
	wantLatest(t, l, 0, 2, 49, 49)
	wantLatest(t, l, 0, 2, 2000, 49)
	wantLatest(t, l, 2, 3, 100, 0)
	wantLatest(t, l, 2, 4, 100, 0)
	wantLatest(t, l, 2, 4, 2000, 0)
	wantLatest(t, l, 4, 3, 2000, 999)
	wantLatest(t, l, 1, 0, 25, 6)
	wantLatest(t, l, 1, 0, 26, 20)
	wantNoLatest(t, "ahead of all", l, 0, 1, 6)
	wantNoLatest(t, "ahead of all", l, 0, 2, 20)
	wantNoLatest(t, "at 0", l, 0, 1, 0)
	wantNoLatest(t, "nobody comes in time", l, 2, 4, 99)
	wantNoLatest(t, "nobody comes", l, 0, 4, 2000)
	wantNoLatest(t, "nobody meets it", l, 0, 7, 2000)
}

func TestLatestEdges(t *testing.T) {
	l := []impl.Contact{meets(0, 1, 0, 1000, 0), meets(1, 2, 0, 1000, 100), meets(2, 3, 0, 1, 0), meets(4, 5, 999, 1000, 100)}
	wantLatest(t, l, 0, 1, 0, 0)
	wantLatest(t, l, 0, 1, 998, 998)
	wantLatest(t, l, 0, 1, 999, 999)
	wantLatest(t, l, 0, 1, 1000, 999)
	wantLatest(t, l, 0, 1, 2000, 999)
	wantLatest(t, l, 0, 2, 100, 0)
	wantLatest(t, l, 0, 2, 1098, 998)
	wantLatest(t, l, 0, 2, 1099, 999)
	wantLatest(t, l, 0, 2, 2000, 999)
	wantLatest(t, l, 2, 3, 0, 0)
	wantLatest(t, l, 2, 3, 2000, 0)
	wantLatest(t, l, 4, 5, 1099, 999)
	wantNoLatest(t, "at 0", l, 0, 2, 0)
	wantNoLatest(t, "one too early", l, 0, 2, 99)
	wantNoLatest(t, "ended on the way", l, 1, 3, 2000)
	wantNoLatest(t, "one too early", l, 4, 5, 1098)
	wantLatest(t, l, 7, 7, 0, 0)
	wantLatest(t, l, 7, 7, 2000, 1000)
	for _, by := range []int{math.MinInt, -2000, -1, 2001, 3000, math.MaxInt} {
		wantNoLatest(t, "no time", l, 0, 1, by)
		wantNoLatest(t, "no time", l, 7, 7, by)
	}
	askEverything(t, l)
}

func TestRoutesWrong(t *testing.T) {
	l := []impl.Contact{meets(0, 1, 0, 1000, 0), meets(1, 0, 0, 1000, 0)}
	for _, node := range []int{math.MinInt, -1, 8, 9, 256, math.MaxInt} {
		wantNoRoute(t, "from no node", l, node, 0, 0)
		wantNoRoute(t, "to no node", l, 0, 0, node)
		wantNoRoute(t, "no nodes", l, node, 0, node)
		wantNoLatest(t, "from no node", l, node, 0, 500)
		wantNoLatest(t, "to no node", l, 0, node, 500)
		wantNoLatest(t, "no nodes", l, node, node, 500)
		if times, ok := impl.EarliestFrom(l, node, 0); len(times) != 0 || ok {
			t.Errorf("from %d: %v, %v", node, times, ok)
		}
	}
	for _, at := range []int{math.MinInt, -1000, -1, 1001, 2000, math.MaxInt} {
		wantNoRoute(t, "no time", l, 0, at, 0)
		wantNoRoute(t, "no time", l, 0, at, 1)
		if times, ok := impl.EarliestFrom(l, 0, at); len(times) != 0 || ok {
			t.Errorf("at %d: %v, %v", at, times, ok)
		}
	}
}

// Promise 6: nobody is there earlier than is told, by any contacts.
func TestNobodyIsThereEarlier(t *testing.T) {
	r := rand.New(rand.NewSource(66))
	reached := 0
	for range 2000 {
		l := somePlan(r, r.Intn(7), 2+r.Intn(3), []int{4, 12, 40}[r.Intn(3)])
		from, at := r.Intn(4), r.Intn(6)
		want := plainEachRow(l, from, at)
		wantEarliest(t, l, from, at, want...)
		for to, when := range want {
			row, told, ok := impl.RouteTo(l, from, at, to)
			if ok != (when >= 0) || ok && told != when {
				t.Fatalf("RouteTo(%v, %d, %d, %d) = %v, %d, %v, not %d", l, from, at, to, row, told, ok, when)
			}
			if ok && to != from {
				reached++
			}
		}
	}
	if reached < 500 {
		t.Error("too few were reached:", reached)
	}
}

func TestPlansMixed(t *testing.T) {
	r := rand.New(rand.NewSource(666))
	for range 12000 {
		l := somePlan(r, r.Intn(21), 2+r.Intn(7), []int{3, 20, 200, 1000}[r.Intn(4)])
		checkFrom(t, l, r.Intn(8), r.Intn(30))
		checkFrom(t, l, r.Intn(8), r.Intn(1001))
	}
	for range 60 {
		l := somePlan(r, 1+r.Intn(20), 2+r.Intn(7), []int{5, 50, 1000}[r.Intn(3)])
		for from := range 8 {
			starts := plainStarts(l, from)
			for to := range 8 {
				for by := 0; by <= 2000; by += 1 + r.Intn(40) {
					checkLatest(t, l, starts, from, to, by)
				}
			}
		}
	}
	for range 10 {
		askEverything(t, somePlan(r, 1+r.Intn(6), 2+r.Intn(3), 30))
	}
}

func TestPlanBehindItsLength(t *testing.T) {
	good, wrong := append(someLate(), meets(0, 7, 0, 1000, 0)), append(someLate(), meets(0, 0, -1, 5000, 200))
	for _, all := range [][]impl.Contact{good, wrong} {
		was := slices.Clone(all)
		askEverything(t, all[:8])
		wantNoRoute(t, "behind the plan's length", all[:8], 0, 0, 7)
		wantNoArrive(t, "behind the plan's length", all[:8], 0, 0, []int{8})
		over := []int{0, 2, 4, 99}
		wantArrive(t, all[:8], 0, 0, over[:2], 21)
		wantUses(t, all[:8], over[:3], true)
		if !slices.Equal(all, was) || !slices.Equal(over, []int{0, 2, 4, 99}) {
			t.Errorf("written behind: %v, %v", all, over)
		}
	}
}

func TestPlansNewMemory(t *testing.T) {
	l := someLate()
	was := slices.Clone(l)
	spoil := func(answer []int) {
		answer = answer[:cap(answer)]
		for i := range answer {
			answer[i] = -7
		}
	}
	for range 2 { // what was spoilt in the first round isn't there in the second
		times, _ := impl.EarliestFrom(l, 0, 0)
		row, _, _ := impl.RouteTo(l, 0, 0, 3)
		open, _ := impl.OpenAt(l, 5)
		more, _ := impl.OpenAt(l, 5)
		spoil(more)
		if !slices.Equal(times, []int{0, 7, 21, 121, -1, -1, -1, -1}) || !slices.Equal(row, []int{0, 2, 5}) || !slices.Equal(open, []int{0, 1, 5, 7}) {
			t.Errorf("%v, %v, %v", times, row, open)
		}
		spoil(times)
		spoil(row)
		spoil(open)
	}
	if !slices.Equal(l, was) {
		t.Errorf("%v, once %v", l, was)
	}
}

func TestNoContacts(t *testing.T) {
	for _, l := range [][]impl.Contact{nil, {}} {
		wantEarliest(t, l, 0, 0, 0, -1, -1, -1, -1, -1, -1, -1)
		wantEarliest(t, l, 7, 1000, -1, -1, -1, -1, -1, -1, -1, 1000)
		wantRoute(t, l, 3, 17, 3, 17)
		wantNoRoute(t, "no contacts", l, 3, 17, 4)
		wantLatest(t, l, 3, 3, 17, 17)
		wantNoLatest(t, "no contacts", l, 3, 4, 2000)
		askEverything(t, l)
	}
}
