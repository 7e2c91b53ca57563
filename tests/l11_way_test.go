package tests

import (
	"math/rand"
	"slices"
	"testing"

	"loop.example/g00315/impl"
)

// plainBack goes back from a node by the first road that will do, and gives up where none does.
func plainBack(l []impl.Road, costs []int, from int, node int, been int) ([]int, bool) {
	if node == from {
		return nil, true
	}
	for k, r := range l {
		if r.To == node && costs[r.From] < far && costs[r.From]+r.Cost == costs[node] && been>>r.From&1 == 0 {
			row, ok := plainBack(l, costs, from, r.From, been|1<<r.From)
			if !ok {
				return nil, false
			}
			return append(row, k), true
		}
	}
	return nil, false
}

func plainWayBetween(l []impl.Road, costs []int, from int, to int) ([]int, bool) {
	if costs[to] == far {
		return nil, false
	}
	return plainBack(l, costs, from, to, 1<<to)
}

// fromBehind is the row read from its last one on.
func fromBehind(row []int) []int {
	row = slices.Clone(row)
	slices.Reverse(row)
	return row
}

// plainCheapestRows tries all rows without a node twice: for each node the one of least cost that is, from behind, by the first roads.
func plainCheapestRows(l []impl.Road, from int, costs []int) [8][]int {
	var rows [8][]int
	var any [8]bool
	plainRowsFrom(l, from, func(node int, row []int, cost int) {
		if cost == costs[node] && (!any[node] || slices.Compare(fromBehind(row), fromBehind(rows[node])) < 0) {
			rows[node], any[node] = slices.Clone(row), true
		}
	})
	return rows
}

// checkWaysBetween asks WayBetween of all nodes, and of those that are none; how often one can get there, and no way is found.
func checkWaysBetween(t *testing.T, l []impl.Road, all [][]int, can bool) int {
	t.Helper()
	missed := 0
	for _, from := range edgeNodes() {
		var rows [8][]int
		if can && plainNode(from) {
			rows = plainCheapestRows(l, from, all[from])
		}
		for _, to := range edgeNodes() {
			if !can || !plainNode(from) || !plainNode(to) {
				wantNoWay(t, "not as said", l, from, to)
				continue
			}
			want, is := plainWayBetween(l, all[from], from, to)
			way, ok := impl.WayBetween(l, from, to)
			if !slices.Equal(way, want) || ok != is {
				t.Fatalf("WayBetween(%v, %d, %d) = %v, %v, not %v, %v", l, from, to, way, ok, want, is)
			}
			if ok {
				checkWayCosts(t, l, from, to, way)
				if !slices.Equal(way, rows[to]) {
					t.Fatalf("WayBetween(%v, %d, %d) = %v: by the first roads it is %v", l, from, to, way, rows[to])
				}
			} else if all[from][to] != far {
				missed++
			}
		}
	}
	if missed > 0 && plainCheapestRound(l) != 0 {
		t.Fatalf("%v: %d ways are not found, though no round costs just 0", l, missed)
	}
	return missed
}

// checkWayCosts asks that the roads lead from one node to the other, no node twice, and cost together what CostFrom tells.
func checkWayCosts(t *testing.T, l []impl.Road, from int, to int, way []int) {
	t.Helper()
	costs, _ := impl.CostFrom(l, from)
	nodes, cost := []int{from}, 0
	for _, k := range way {
		if k < 0 || k >= len(l) || l[k].From != nodes[len(nodes)-1] || slices.Contains(nodes, l[k].To) {
			t.Fatalf("WayBetween(%v, %d, %d) = %v: no way", l, from, to, way)
		}
		nodes, cost = append(nodes, l[k].To), cost+l[k].Cost
	}
	if nodes[len(nodes)-1] != to || cost != costs[to] {
		t.Fatalf("WayBetween(%v, %d, %d) = %v: to %v for %d, CostFrom tells %v", l, from, to, way, nodes, cost, costs)
	}
}

// plainPotentials is the least from anywhere; from itself it is 0.
func plainPotentials(all [][]int) []int {
	least := slices.Clone(all[0])
	for _, costs := range all {
		for node, cost := range costs {
			least[node] = min(least[node], cost)
		}
	}
	return least
}

// checkPotentials asks PotentialsOf and ReducedRoads, as said or not.
func checkPotentials(t *testing.T, l []impl.Road, all [][]int, can bool) {
	t.Helper()
	var want []int
	var roads []impl.Road
	if can {
		want = plainPotentials(all)
		for _, r := range l {
			roads = append(roads, impl.Road{From: r.From, To: r.To, Cost: r.Cost + want[r.From] - want[r.To]})
		}
	}
	p, ok := impl.PotentialsOf(l)
	if !slices.Equal(p, want) || ok != can {
		t.Fatalf("PotentialsOf(%v) = %v, %v, not %v, %v", l, p, ok, want, can)
	}
	reduced, ok := impl.ReducedRoads(l)
	if !slices.Equal(reduced, roads) || ok != can {
		t.Fatalf("ReducedRoads(%v) = %v, %v, not %v, %v", l, reduced, ok, roads, can)
	}
	if can {
		checkReduced(t, l, p, reduced)
	}
}

// checkReduced asks the program alone: no potential is above 0, no road is a gain any more, and all rows cost as they did but for their ends' potentials.
func checkReduced(t *testing.T, l []impl.Road, p []int, reduced []impl.Road) {
	t.Helper()
	if slices.Max(p) > 0 || slices.Max(p) < 0 {
		t.Fatalf("PotentialsOf(%v) = %v", l, p)
	}
	for k, r := range reduced {
		if r.Cost < 0 || r.From != l[k].From || r.To != l[k].To {
			t.Fatalf("ReducedRoads(%v)[%d] = %v", l, k, r)
		}
	}
	all, _ := impl.AllCosts(l)
	for from := range 8 {
		plainRowsFrom(l, from, func(node int, row []int, cost int) {
			for _, k := range row {
				cost -= reduced[k].Cost
			}
			if cost != p[node]-p[from] {
				t.Fatalf("ReducedRoads(%v) = %v: %v costs %d less, potentials are %v", l, reduced, row, cost, p)
			}
		})
		for to, cost := range plainCosts(reduced, from) {
			if cost != far && cost != all[from][to]+p[from]-p[to] || cost == far && all[from][to] != far {
				t.Fatalf("ReducedRoads(%v) = %v: from %d to %d %d, once %d", l, reduced, from, to, cost, all[from][to])
			}
		}
	}
	if again, ok := impl.AllCosts(reduced); ok && !sameWays(again, plainAllCosts(reduced)) || ok != impl.GoodRoads(reduced) {
		t.Fatalf("AllCosts(%v) = %v, %v", reduced, again, ok)
	}
}

func wantWayBetween(t *testing.T, l []impl.Road, from int, to int, want ...int) {
	t.Helper()
	checkRoads(t, l)
	if way, ok := impl.WayBetween(l, from, to); !slices.Equal(way, want) || !ok {
		t.Errorf("WayBetween(%v, %d, %d) = %v, %v, not %v", l, from, to, way, ok, want)
	}
}

func wantNoWay(t *testing.T, what string, l []impl.Road, from int, to int) {
	t.Helper()
	if way, ok := impl.WayBetween(l, from, to); len(way) != 0 || ok {
		t.Errorf("%s: WayBetween(%v, %d, %d) = %v, %v", what, l, from, to, way, ok)
	}
}

func wantPotentials(t *testing.T, l []impl.Road, want ...int) {
	t.Helper()
	checkRoads(t, l)
	if p, ok := impl.PotentialsOf(l); !slices.Equal(p, want) || !ok {
		t.Errorf("PotentialsOf(%v) = %v, %v, not %v", l, p, ok, want)
	}
}

// wantReduced names the costs of all roads.
func wantReduced(t *testing.T, l []impl.Road, want ...int) {
	t.Helper()
	checkRoads(t, l)
	var costs []int
	reduced, ok := impl.ReducedRoads(l)
	for _, r := range reduced {
		costs = append(costs, r.Cost)
	}
	if !slices.Equal(costs, want) || !ok {
		t.Errorf("ReducedRoads(%v) = %v, %v, not %v", l, reduced, ok, want)
	}
}

func TestWaysBetweenKnown(t *testing.T) {
	wantWayBetween(t, someRoads(), 0, 2, 0, 1)
	wantWayBetween(t, someRoads(), 0, 1, 0)
	wantWayBetween(t, someRoads(), 1, 2, 1)
	wantWayBetween(t, someRoads(), 4, 2, 3)
	wantWayBetween(t, roadsOf("03:10 01:3 12:3 23:3"), 0, 3, 1, 2, 3)
	wantWayBetween(t, roadsOf("03:8 01:3 12:3 23:3"), 0, 3, 0)
	// In the order in which they are gone, not in that of the list; the first node and the last one.
	wantWayBetween(t, roadsOf("67:1 56:1 45:1 34:1 23:1 12:1 01:1"), 0, 7, 6, 5, 4, 3, 2, 1, 0)
	wantWayBetween(t, roadsOf("76:-1 65:-1 54:-1 43:-1 32:-1 21:-1 10:-1"), 7, 0, 0, 1, 2, 3, 4, 5, 6)
	wantWayBetween(t, roadsOf("07:-100 70:100"), 0, 7, 0)
	wantWayBetween(t, roadsOf("07:-100 70:100"), 7, 0, 1)
	// A road that does not lead on cheapest is passed over, though it is the first.
	wantWayBetween(t, roadsOf("13:1 23:1 01:6 02:5"), 0, 3, 3, 1)
	wantWayBetween(t, roadsOf("01:5 12:1 01:4 12:-1"), 0, 2, 2, 3)
}

func TestWaysOfSeveralTheFirst(t *testing.T) {
	wantWayBetween(t, roadsOf("01:4 01:4"), 0, 1, 0)
	wantWayBetween(t, roadsOf("01:5 01:4 01:4"), 0, 1, 1)
	wantWayBetween(t, roadsOf("01:-4 12:3 01:-4 12:3"), 0, 2, 0, 1)
	// What is as cheap: from the last one back the first road decides, not the fewest roads.
	wantWayBetween(t, roadsOf("03:2 01:1 13:1"), 0, 3, 0)
	wantWayBetween(t, roadsOf("01:1 13:1 03:2"), 0, 3, 0, 1)
	wantWayBetween(t, roadsOf("01:1 03:2 13:1"), 0, 3, 1)
	// The first road of all is on the other way, that by 1.
	wantWayBetween(t, roadsOf("01:1 23:1 02:1 13:1"), 0, 3, 2, 1)
	wantWayBetween(t, roadsOf("01:1 13:1 02:1 23:1"), 0, 3, 0, 1)
	wantWayBetween(t, roadsOf("02:1 23:1 01:1 13:1"), 0, 3, 0, 1)
	// And once more, further back.
	wantWayBetween(t, roadsOf("34:1 01:1 02:1 13:1 23:1"), 0, 4, 1, 3, 0)
	wantWayBetween(t, roadsOf("34:1 01:1 02:1 23:1 13:1"), 0, 4, 2, 3, 0)
}

// TestWaysByRoundsOfNothing has rounds that cost just 0, by which a node is come to that is in the row already.
func TestWaysByRoundsOfNothing(t *testing.T) {
	// From 1 back the first road is from 2; of those to 2 the first one is from 1, which is in the row.
	wantWayBetween(t, roadsOf("21:0 12:0 01:5 02:5"), 0, 1, 3, 0)
	wantWayBetween(t, roadsOf("21:-3 12:3 01:5 02:8"), 0, 1, 3, 0)
	wantWayBetween(t, roadsOf("21:0 12:0 01:5 02:5"), 0, 2, 2, 1)
	wantWayBetween(t, roadsOf("12:0 23:0 31:0 01:1 02:1"), 0, 1, 4, 1, 2)
	wantWayBetween(t, roadsOf("12:0 23:0 31:0 01:1 02:1"), 0, 3, 3, 0, 1)
	// There is one way, but the first road leads into the round, and from there none leads on.
	for _, l := range [][]impl.Road{roadsOf("21:0 12:0 01:5"), roadsOf("21:-3 12:3 01:5"), roadsOf("12:0 21:0 01:5"), roadsOf("21:100 12:-100 01:-100")} {
		if missed := checkRoads(t, l); missed != 1 {
			t.Errorf("%v: %d ways are not found", l, missed)
		}
		wantNoWay(t, "a round of nothing", l, 0, 1)
		wantWayBetween(t, l, 0, 2, 2, slices.IndexFunc(l, func(r impl.Road) bool { return r.To == 2 }))
	}
	wantNoWay(t, "a round of nothing", roadsOf("12:0 23:0 31:0 01:1"), 0, 1)
	wantNoWay(t, "a round behind the way", roadsOf("31:0 13:0 01:1 12:1"), 0, 2)
	// The same with the road that leads there ahead of the round.
	wantWayBetween(t, roadsOf("01:5 21:0 12:0"), 0, 1, 0)
	wantWayBetween(t, roadsOf("01:1 12:0 23:0 31:0"), 0, 1, 0)
	wantWayBetween(t, roadsOf("01:1 31:0 13:0 12:1"), 0, 2, 0, 3)
	// A round that costs something leads nobody astray.
	wantWayBetween(t, roadsOf("21:1 12:0 01:5"), 0, 1, 2)
	wantWayBetween(t, roadsOf("21:0 12:1 01:5"), 0, 1, 2)
	// It ends at the first node, though the round goes on by it.
	wantWayBetween(t, roadsOf("20:0 01:0 12:0"), 0, 2, 1, 2)
	wantWayBetween(t, roadsOf("10:0 01:0"), 0, 1, 1)
	wantWayBetween(t, roadsOf("10:0 01:0"), 1, 0, 0)
	wantWayBetween(t, roadsOf("10:0 01:0"), 0, 0)
}

func TestNoWayBetween(t *testing.T) {
	for _, to := range []int{3, 4, 5, 6, 7} {
		wantNoWay(t, "far", someRoads(), 0, to)
	}
	wantNoWay(t, "against the road", someRoads(), 2, 1)
	wantNoWay(t, "against the road", roadsOf("07:-100"), 7, 0)
	// Roads lead there, but from where one cannot get.
	l := roadsOf("56:-100 65:100 45:0 54:0 63:-7")
	for _, to := range []int{3, 4, 5, 6} {
		wantNoWay(t, "far", l, 0, to)
		wantNoWay(t, "far", l, 7, to)
	}
	wantWayBetween(t, l, 4, 3, 2, 0, 4)
	wantWayBetween(t, someRoads(), 7, 7)
}

func TestPotentialsKnown(t *testing.T) {
	wantPotentials(t, someRoads(), 0, 0, -100, 0, 0, 0, 0, 0)
	wantPotentials(t, someRoads()[:3], 0, 0, -3, 0, 0, 0, 0, 0)
	wantPotentials(t, roadsOf("01:5 12:7 20:100"), 0, 0, 0, 0, 0, 0, 0, 0)
	wantPotentials(t, roadsOf("01:-1 12:-2 23:-3"), 0, -1, -3, -6, 0, 0, 0, 0)
	// From wherever it is least, not from the row's beginning.
	wantPotentials(t, roadsOf("01:4 12:-2 23:-3 34:1"), 0, 0, -2, -5, -4, 0, 0, 0)
	wantPotentials(t, roadsOf("23:-1 12:-1 01:-1 73:-2"), 0, -1, -2, -3, 0, 0, 0, 0)
	wantPotentials(t, roadsOf("23:-1 12:-1 01:-1 73:-4"), 0, -1, -2, -4, 0, 0, 0, 0)
	wantPotentials(t, roadsOf("70:-1 07:1"), -1, 0, 0, 0, 0, 0, 0, 0)
	wantPotentials(t, roadsOf("07:-100 76:-100 65:-100 54:-100 43:-100 32:-100 21:-100"), 0, -700, -600, -500, -400, -300, -200, -100)
}

func TestReducedKnown(t *testing.T) {
	wantReduced(t, someRoads(), 5, 97, 104, 0)
	wantReduced(t, someRoads()[:3], 5, 0, 7)
	wantReduced(t, roadsOf("01:5 12:7 20:100"), 5, 7, 100)
	wantReduced(t, roadsOf("01:-1 12:-2 23:-3"), 0, 0, 0)
	wantReduced(t, roadsOf("01:-1 10:1"), 0, 0)
	wantReduced(t, roadsOf("01:-1 10:3"), 0, 2)
	wantReduced(t, roadsOf("01:4 12:-2 23:-3 34:1"), 4, 0, 0, 0)
	// A cost may be beyond that of any good road then.
	wantReduced(t, roadsOf("01:-100 21:100"), 0, 200)
	wantReduced(t, roadsOf("07:-100 76:-100 65:-100 54:-100 43:-100 32:-100 21:-100 01:100"), 0, 0, 0, 0, 0, 0, 0, 800)
	// Two roads between the same.
	wantReduced(t, roadsOf("01:-5 01:-4 01:5"), 0, 1, 10)
}

// TestWaysAmongRoundsOfNothing goes by roads of which every round costs just 0.
func TestWaysAmongRoundsOfNothing(t *testing.T) {
	r := rand.New(rand.NewSource(1101))
	some, none := 0, 0
	for range 1000 {
		switch missed := checkRoads(t, anyHills(r, 2+r.Intn(13), 2+r.Intn(5), r.Intn(2))); {
		case missed > 0:
			some++
		default:
			none++
		}
	}
	if some < 100 || none < 100 {
		t.Errorf("some ways are not found %d times, none %d times", some, none)
	}
}

func TestRoadsBehindTheirLength(t *testing.T) {
	for _, behind := range []impl.Road{{From: 2, To: 0, Cost: -100}, {From: 0, To: 2, Cost: -50}, {From: 9, To: -5, Cost: 1000}} {
		all := append(someRoads(), behind, behind)
		was := slices.Clone(all)
		wantGain(t, all[:4], false)
		wantCosts(t, all[:4], 0, 0, 5, 2)
		wantCosts(t, all[:0], 0, 0)
		wantWayBetween(t, all[:4], 0, 2, 0, 1)
		wantPotentials(t, all[:3], 0, 0, -3, 0, 0, 0, 0, 0)
		wantReduced(t, all[:3], 5, 0, 7)
		wantReduced(t, all[:0])
		if !slices.Equal(all, was) {
			t.Errorf("written behind: %v", all)
		}
	}
}

func TestRoadsNewMemory(t *testing.T) {
	l := append(make([]impl.Road, 0, 40), someRoads()...)
	spoil := func(answer []int) {
		answer = answer[:cap(answer)]
		for i := range answer {
			answer[i] = -7
		}
	}
	want := plainAllCosts(l)
	for range 2 { // what was spoilt in the first round isn't there in the second
		all, _ := impl.AllCosts(l)
		for from := range want {
			if !sameWays(all[from:], want[from:]) {
				t.Errorf("%v, not %v", all[from:], want[from:])
			}
			_ = append(all[from], -8)
			spoil(all[from])
		}
		for _, costs := range all {
			if !slices.Equal(costs, slices.Repeat([]int{-7}, 8)) {
				t.Errorf("%v", all)
			}
		}
		costs, _ := impl.CostFrom(l, 0)
		way, _ := impl.WayBetween(l, 0, 2)
		p, _ := impl.PotentialsOf(l)
		if !slices.Equal(costs, want[0]) || !slices.Equal(way, []int{0, 1}) || !slices.Equal(p, []int{0, 0, -100, 0, 0, 0, 0, 0}) {
			t.Errorf("%v, %v, %v", costs, way, p)
		}
		spoil(costs)
		spoil(way)
		spoil(p)
		reduced, _ := impl.ReducedRoads(l)
		if !slices.Equal(reduced, roadsOf("01:5 12:97 02:104 42:0")) {
			t.Errorf("%v", reduced)
		}
		reduced = reduced[:cap(reduced)]
		for k := range reduced {
			reduced[k] = impl.Road{From: 7, To: 7, Cost: 7}
		}
	}
	if !slices.Equal(l, someRoads()) || !slices.Equal(l[:40][4:], make([]impl.Road, 36)) {
		t.Errorf("%v", l[:40])
	}
}
