package tests

import (
	"math"
	"math/rand"
	"slices"
	"testing"

	"loop.example/g00315/impl"
)

// plainForward goes by the document's words: a route, its first contact, when one is there by it, whether that is in time.
func plainForward(l []impl.Contact, b impl.Bundle, node int, at int, to int) (int, int, bool) {
	if !plainFits(l, b) || !plainNode(node) || !plainWhen(at) || !plainNode(to) || node == to {
		return 0, 0, false
	}
	over, _, ok := plainRoute(l, node, at, to)
	if !ok {
		return 0, 0, false
	}
	there, ok := plainPass(l[over[0]], at)
	if !ok || there-b.Made > b.Life {
		return 0, 0, false
	}
	return over[0], there, true
}

// plainFollow takes as many steps as are told at most.
func plainFollow(l []impl.Contact, b impl.Bundle, to int) ([]int, int, bool) {
	if !plainFits(l, b) || !plainNode(to) {
		return nil, 0, false
	}
	var over []int
	node, when := b.From, b.Made
	for steps := 0; steps < 20 && node != to; steps++ {
		k, there, ok := plainForward(l, b, node, when, to)
		if !ok {
			return nil, 0, false
		}
		over, node, when = append(over, k), l[k].To, there
	}
	if node != to {
		return nil, 0, false
	}
	return over, when, true
}

// checkForward asks ForwardStep, as said or not, and holds it against RouteTo and ArriveBy.
func checkForward(t *testing.T, l []impl.Contact, b impl.Bundle, node int, at int, to int) bool {
	t.Helper()
	plan, was := slices.Clone(l), b
	want, when, can := plainForward(l, b, node, at, to)
	k, there, ok := impl.ForwardStep(l, b, node, at, to)
	if k != want || there != when || ok != can {
		t.Fatalf("ForwardStep(%v, %+v, %d, %d, %d) = %d, %d, %v, not %d, %d, %v", l, b, node, at, to, k, there, ok, want, when, can)
	}
	if over, _, leads := impl.RouteTo(l, node, at, to); ok && (!leads || len(over) == 0 || over[0] != k) {
		t.Fatalf("ForwardStep(%v, %+v, %d, %d, %d) = %d where RouteTo told %v, %v", l, b, node, at, to, k, over, leads)
	}
	if by, takes := impl.ArriveBy(l, node, at, []int{k}); ok && (!takes || by != there) {
		t.Fatalf("ForwardStep(%v, %+v, %d, %d, %d) = %d, %d where ArriveBy told %d, %v", l, b, node, at, to, k, there, by, takes)
	}
	if !slices.Equal(l, plan) || b != was {
		t.Fatalf("written into: %v, %+v, once %v, %+v", l, b, plan, was)
	}
	return ok
}

// checkFollow asks FollowPlan, as said or not: where it comes there it is there when RouteTo told at first, and it comes there wherever that is in time.
func checkFollow(t *testing.T, l []impl.Contact, b impl.Bundle, to int) ([]int, bool) {
	t.Helper()
	plan, was := slices.Clone(l), b
	want, when, can := plainFollow(l, b, to)
	over, there, ok := impl.FollowPlan(l, b, to)
	if !slices.Equal(over, want) || there != when || ok != can {
		t.Fatalf("FollowPlan(%v, %+v, %d) = %v, %d, %v, not %v, %d, %v", l, b, to, over, there, ok, want, when, can)
	}
	_, first, leads := impl.RouteTo(l, b.From, b.Made, to)
	if inTime := leads && plainFits(l, b) && first-b.Made <= b.Life; ok != inTime || ok && there != first {
		t.Fatalf("FollowPlan(%v, %+v, %d) = %v, %d, %v where RouteTo told %d, %v", l, b, to, over, there, ok, first, leads)
	}
	if ok {
		wantArrive(t, l, b.From, b.Made, over, there)
		wantUses(t, l, over, true)
		if end, _, _ := plainArrive(l, b.From, b.Made, over); end != to {
			t.Fatalf("FollowPlan(%v, %+v, %d) = %v leads to %d", l, b, to, over, end)
		}
	}
	if !slices.Equal(l, plan) || b != was {
		t.Fatalf("written into: %v, %+v, once %v, %+v", l, b, plan, was)
	}
	return over, ok
}

func wantForward(t *testing.T, l []impl.Contact, b impl.Bundle, node int, at int, to int, k int, when int) {
	t.Helper()
	checkForward(t, l, b, node, at, to)
	if got, there, ok := impl.ForwardStep(l, b, node, at, to); got != k || there != when || !ok {
		t.Errorf("ForwardStep(%v, %+v, %d, %d, %d) = %d, %d, %v, not %d, %d", l, b, node, at, to, got, there, ok, k, when)
	}
}

func wantNoForward(t *testing.T, what string, l []impl.Contact, b impl.Bundle, node int, at int, to int) {
	t.Helper()
	checkForward(t, l, b, node, at, to)
	if got, there, ok := impl.ForwardStep(l, b, node, at, to); got != 0 || there != 0 || ok {
		t.Errorf("%s: ForwardStep(%v, %+v, %d, %d, %d) = %d, %d, %v", what, l, b, node, at, to, got, there, ok)
	}
}

func wantFollow(t *testing.T, l []impl.Contact, b impl.Bundle, to int, when int, over ...int) {
	t.Helper()
	checkFollow(t, l, b, to)
	if got, there, ok := impl.FollowPlan(l, b, to); !slices.Equal(got, over) || there != when || !ok {
		t.Errorf("FollowPlan(%v, %+v, %d) = %v, %d, %v, not %v, %d", l, b, to, got, there, ok, over, when)
	}
}

func wantNoFollow(t *testing.T, what string, l []impl.Contact, b impl.Bundle, to int) {
	t.Helper()
	checkFollow(t, l, b, to)
	if got, there, ok := impl.FollowPlan(l, b, to); len(got) != 0 || there != 0 || ok {
		t.Errorf("%s: FollowPlan(%v, %+v, %d) = %v, %d, %v", what, l, b, to, got, there, ok)
	}
}

func TestForwardKnown(t *testing.T) {
	l := someLate()
	b := groupBundle(0, 0, 200, 3)
	wantForward(t, l, b, 0, 0, 1, 0, 7)
	wantForward(t, l, b, 0, 0, 2, 0, 7)
	wantForward(t, l, b, 0, 0, 3, 0, 7)
	wantForward(t, l, b, 0, 9, 3, 0, 11)
	wantForward(t, l, b, 0, 10, 2, 3, 40)
	wantNoForward(t, "it has ended", l, b, 0, 10, 1)
	wantNoForward(t, "it has ended, further on", l, b, 0, 10, 3)
	wantForward(t, l, b, 1, 6, 2, 1, 7)
	wantForward(t, l, b, 1, 7, 2, 2, 21)
	wantForward(t, l, b, 1, 7, 3, 2, 21)
	wantForward(t, l, b, 1, 7, 0, 2, 21)
	wantForward(t, l, b, 2, 21, 3, 5, 121)
	wantForward(t, l, b, 2, 0, 4, 5, 100)
	wantNoForward(t, "nobody comes there", l, b, 0, 0, 7)
	wantNoForward(t, "nobody comes there in time for it", l, b, 0, 0, 4)
	wantNoForward(t, "nobody leaves there", l, b, 7, 0, 0)
}

// TestForwardFromAnywhere: the node need not be where the bundle is from, nor the time behind Made.
func TestForwardFromAnywhere(t *testing.T) {
	l := rowPlan(4)
	b := groupBundle(7, 500, 10, 0)
	for node := range 7 {
		wantForward(t, l, b, node, 0, 7, node, 4)
		wantForward(t, l, b, node, 499, 7, node, 503)
		wantForward(t, l, b, node, 506, 7, node, 510)
		wantNoForward(t, "later than Life lets", l, b, node, 507, 7)
		wantNoForward(t, "back", l, b, 7, 500, node)
	}
}

// TestForwardInTime: what counts is when one is there by the first contact, not when one is at the other one at last.
func TestForwardInTime(t *testing.T) {
	l := []impl.Contact{meets(0, 1, 10, 20, 5), meets(1, 2, 100, 200, 50)}
	for _, life := range []int{15, 16, 100, 149} {
		b := groupBundle(0, 0, life, 0)
		wantForward(t, l, b, 0, 0, 2, 0, 15)
		wantForward(t, l, b, 0, 0, 1, 0, 15)
		wantNoForward(t, "the second is there too late", l, b, 1, 15, 2)
		wantNoFollow(t, "the second is there too late", l, b, 2)
		wantFollow(t, l, b, 1, 15, 0)
	}
	for _, life := range []int{1, 9, 13, 14} {
		b := groupBundle(0, 0, life, 0)
		wantNoForward(t, "the first is there too late", l, b, 0, 0, 2)
		wantNoForward(t, "the first is there too late", l, b, 0, 0, 1)
		wantNoFollow(t, "the first is there too late", l, b, 1)
		wantNoFollow(t, "the first is there too late", l, b, 2)
	}
	for _, life := range []int{150, 151, 1000000} {
		b := groupBundle(0, 0, life, 0)
		wantForward(t, l, b, 1, 15, 2, 1, 150)
		wantFollow(t, l, b, 2, 150, 0, 1)
	}
	// Made counts with Life.
	wantForward(t, l, groupBundle(0, 14, 5, 0), 0, 14, 1, 0, 19)
	wantNoForward(t, "one later", l, groupBundle(0, 14, 5, 0), 0, 15, 1)
	wantForward(t, l, groupBundle(0, 15, 5, 0), 0, 15, 1, 0, 20)
}

func TestForwardToItself(t *testing.T) {
	round := append(rowPlan(0), meets(7, 0, 0, 1000, 0))
	for _, l := range [][]impl.Contact{nil, {}, someLate(), round} {
		for node := range 8 {
			for _, at := range []int{0, 1, 500, 999, 1000} {
				wantNoForward(t, "to itself", l, groupBundle(node, at, 1000, 30), node, at, node)
				wantFollow(t, l, groupBundle(node, at, 1000, 30), node, at)
				wantFollow(t, l, groupBundle(node, at, 1, 0), node, at)
			}
		}
	}
}

// TestThereBehindMaxWhen: a contact leads beyond all times at which one can be asked for, or just to the last one.
func TestThereBehindMaxWhen(t *testing.T) {
	for _, delay := range []int{0, 1, 2, 99, 100} {
		l := []impl.Contact{meets(0, 1, 999, 1000, delay), meets(1, 2, 0, 1000, 0)}
		there := 999 + delay
		b := groupBundle(0, 0, there, 5)
		wantForward(t, l, b, 0, 0, 1, 0, there)
		wantForward(t, l, b, 0, 999, 1, 0, there)
		wantNoForward(t, "it has ended", l, b, 0, 1000, 1)
		wantFollow(t, l, b, 1, there, 0)
		wantReaches(t, l, b, []int{1}, reach(1, there, 0))
		wantDelivered(t, l, b, []int{1}, there, 1)
		wantDelivered(t, l, b, []int{1}, there-1)
		if delay == 0 {
			wantFollow(t, l, b, 2, 999, 0, 1)
		} else {
			wantNoFollow(t, "the second one has ended", l, b, 2)
			wantNoForward(t, "the second one has ended", l, b, 0, 0, 2)
		}
		b.Life = there - 1
		wantNoForward(t, "Life ends one ahead", l, b, 0, 0, 1)
		wantNoFollow(t, "Life ends one ahead", l, b, 1)
		b = groupBundle(0, 999, max(delay, 1), 5)
		wantFollow(t, l, b, 1, there, 0)
	}
	l := []impl.Contact{meets(0, 1, 900, 901, 100)}
	wantFollow(t, l, groupBundle(0, 900, 100, 1), 1, 1000, 0)
	wantNoFollow(t, "Made when nothing is open any more", l, groupBundle(0, 1000, 100, 1), 1)
}

func TestFollowKnown(t *testing.T) {
	l := someLate()
	wantFollow(t, l, groupBundle(0, 0, 200, 3), 1, 7, 0)
	wantFollow(t, l, groupBundle(0, 0, 200, 3), 2, 21, 0, 2)
	wantFollow(t, l, groupBundle(0, 0, 200, 3), 3, 121, 0, 2, 5)
	wantFollow(t, l, groupBundle(0, 0, 121, 3), 3, 121, 0, 2, 5)
	wantNoFollow(t, "one less of Life", l, groupBundle(0, 0, 120, 3), 3)
	wantFollow(t, l, groupBundle(0, 10, 200, 3), 2, 40, 3)
	wantFollow(t, l, groupBundle(1, 7, 200, 3), 0, 26, 2, 4)
	wantFollow(t, l, groupBundle(2, 0, 200, 3), 4, 100, 5, 6)
	wantNoFollow(t, "too late for the last one", l, groupBundle(2, 1, 200, 3), 4)
	wantFollow(t, l, groupBundle(4, 999, 3, 3), 3, 1002, 7)
	wantNoFollow(t, "nobody leaves there", l, groupBundle(7, 0, 200, 3), 0)
}

// TestFollowWithoutHops: they are counted where all are reached, not on the way.
func TestFollowWithoutHops(t *testing.T) {
	for _, delay := range []int{0, 1, 100} {
		for hops := range 9 {
			for from := range 8 {
				for to := from; to < 8; to++ {
					var over []int
					for k := from; k < to; k++ {
						over = append(over, k)
					}
					wantFollow(t, rowPlan(delay), groupBundle(from, 3, 700, hops), to, 3+delay*(to-from), over...)
				}
			}
		}
	}
}

// TestFollowRoundsOfNothing: contacts that take no time lead round and round, and nobody goes that way.
func TestFollowRoundsOfNothing(t *testing.T) {
	r := rand.New(rand.NewSource(170))
	rows := [9]int{}
	for range 2000 {
		l := somePlan(r, 20, 3+r.Intn(6), 20)
		for k := range l {
			l[k].Delay = 0
			if r.Intn(3) > 0 {
				l[k].Start, l[k].End = 5, 6
			}
		}
		b := groupBundle(r.Intn(8), r.Intn(8), 1+r.Intn(20), 30)
		for to := range 8 {
			over, ok := checkFollow(t, l, b, to)
			if ok {
				rows[len(over)]++
			}
		}
	}
	if slices.Min(rows[1:5]) < 20 {
		t.Error(rows)
	}
}

func TestFollowNoContacts(t *testing.T) {
	for _, l := range [][]impl.Contact{nil, {}} {
		for _, from := range []int{0, 3, 7} {
			for to := range 8 {
				b := groupBundle(from, 1000, 1, 0)
				wantNoForward(t, "no contacts", l, b, from, 1000, to)
				if to == from {
					wantFollow(t, l, b, to, 1000)
				} else {
					wantNoFollow(t, "no contacts", l, b, to)
				}
			}
		}
	}
}

func TestFollowMaxContacts(t *testing.T) {
	l := append(slices.Repeat([]impl.Contact{meets(0, 7, 0, 1000, 50)}, 13), rowPlan(7)...)
	wantFollow(t, l, groupBundle(0, 0, 100, 1), 7, 49, 13, 14, 15, 16, 17, 18, 19)
	wantFollow(t, l, groupBundle(0, 0, 49, 1), 7, 49, 13, 14, 15, 16, 17, 18, 19)
	wantNoFollow(t, "one less of Life", l, groupBundle(0, 0, 48, 1), 7)
	wantForward(t, l, groupBundle(0, 0, 100, 1), 6, 0, 7, 19, 7)
	l = append(l, meets(0, 1, 0, 1, 0))
	wantNoFollow(t, "one more than MaxContacts", l, groupBundle(0, 0, 100, 1), 7)
	wantNoForward(t, "one more than MaxContacts", l, groupBundle(0, 0, 100, 1), 0, 0, 7)
}

// TestFollowWrong asks at nodes and times that are none.
func TestFollowWrong(t *testing.T) {
	b := groupBundle(0, 0, 1000, 30)
	for _, l := range [][]impl.Contact{nil, someLate(), rowPlan(0)} {
		for _, node := range []int{math.MinInt, -8, -1, 8, 9, 40, 256, 1 << 32, math.MaxInt} {
			wantNoFollow(t, "no node", l, b, node)
			wantNoForward(t, "no node to go to", l, b, 0, 0, node)
			wantNoForward(t, "no node to go from", l, b, node, 0, 1)
			wantNoForward(t, "neither", l, b, node, 0, node)
		}
		for _, at := range []int{math.MinInt, -1000, -1, 1001, 1002, 2000, 1 << 32, math.MaxInt} {
			for to := range 8 {
				wantNoForward(t, "no time", l, b, 0, at, to)
			}
		}
	}
	for _, at := range []int{0, 1, 500, 999} {
		wantForward(t, rowPlan(0), b, 0, at, 7, 0, at)
	}
	wantNoForward(t, "the last time", rowPlan(0), b, 0, 1000, 7)
}

// TestEveryStep asks for each of a few plans at all nodes and all times where something changes, and at wrong ones.
func TestEveryStep(t *testing.T) {
	r := rand.New(rand.NewSource(171))
	steps := 0
	for range 60 {
		l, b := somePlan(r, r.Intn(9), 2+r.Intn(4), []int{30, 1000}[r.Intn(2)]), fitting(r, 8, 60)
		for _, node := range edgeNodes() {
			for _, at := range edgeTimes(l) {
				for _, to := range edgeNodes() {
					if checkForward(t, l, b, node, at, to) {
						steps++
					}
				}
			}
		}
		for _, to := range edgeNodes() {
			checkFollow(t, l, b, to)
		}
	}
	if steps < 1000 {
		t.Error(steps)
	}
}

// Promise 17: who goes on by the plan, place by place, is there when the plan told at first; all rows of contacts are gone over.
func TestWhoGoesOnIsThereAsTold(t *testing.T) {
	r := rand.New(rand.NewSource(172))
	there := [9]int{}
	for range 1500 {
		nodes, until := 2+r.Intn(3), []int{4, 12, 40}[r.Intn(3)]
		l := somePlan(r, 1+r.Intn(6), nodes, until)
		b := groupBundle(r.Intn(nodes), r.Intn(6), 1000, 0)
		times := plainEachRow(l, b.From, b.Made)
		for to, when := range times {
			if when < 0 {
				wantNoFollow(t, "nobody comes there", l, b, to)
				continue
			}
			over, _ := checkFollow(t, l, b, to)
			wantFollow(t, l, b, to, when, over...)
			there[len(over)]++
		}
	}
	if there[2] < 100 || there[3] < 10 {
		t.Error("they went too seldom:", there)
	}
}

// TestFollowMixed goes over drawn plans, with Life just long enough, one less, and any.
func TestFollowMixed(t *testing.T) {
	r := rand.New(rand.NewSource(173))
	there, late := [9]int{}, 0
	for range 3000 {
		nodes, until := 2+r.Intn(7), []int{3, 20, 200, 1000}[r.Intn(4)]
		l, b := openPlan(r, nodes, until), fitting(r, nodes, until)
		switch r.Intn(20) {
		case 0:
			b = someBundle(r)
		case 1:
			l = append(l, meets(r.Intn(10)-1, r.Intn(10)-1, r.Intn(3)-1, r.Intn(1003), r.Intn(103)-1))
		}
		for to := -1; to < 9; to++ {
			over, ok := checkFollow(t, l, b, to)
			if ok {
				there[len(over)]++
			}
			_, when, leads := impl.RouteTo(l, b.From, b.Made, to)
			if !leads || when-b.Made < 2 || !plainFits(l, b) {
				continue
			}
			just := b
			just.Life = when - b.Made
			wantFollow(t, l, just, to, when, first(impl.FollowPlan(l, just, to))...)
			just.Life--
			wantNoFollow(t, "one less of Life", l, just, to)
			late++
		}
	}
	if slices.Min(there[:5]) < 20 || late < 1000 {
		t.Error(there, late)
	}
}

func first(over []int, _ int, _ bool) []int {
	return over
}

// TestReachedAndFollowed: who is reached is come to step by step, at the same time; who is come to by no more contacts than Hops is reached.
func TestReachedAndFollowed(t *testing.T) {
	r := rand.New(rand.NewSource(174))
	many := 0
	for range 2000 {
		nodes, until := 2+r.Intn(7), []int{10, 60, 400}[r.Intn(3)]
		l, b := openPlan(r, nodes, until), fitting(r, nodes, until)
		reaches, _ := impl.ReachAll(l, b, everybody())
		for _, x := range reaches {
			if _, when, ok := impl.FollowPlan(l, b, x.Member); when != x.When || !ok {
				t.Fatalf("FollowPlan(%v, %+v, %d) = %d, %v, where %+v is reached", l, b, x.Member, when, ok, x)
			}
			many++
		}
		b.Hops = 30
		reaches, _ = impl.ReachAll(l, b, everybody())
		for to := range 8 {
			_, _, ok := impl.FollowPlan(l, b, to)
			if ok != slices.ContainsFunc(reaches, func(x impl.Reach) bool { return x.Member == to }) {
				t.Fatalf("FollowPlan(%v, %+v, %d) is %v, where these are reached: %+v", l, b, to, ok, reaches)
			}
		}
	}
	if many < 2000 {
		t.Error(many)
	}
}
