package tests

import (
	"math"
	"math/rand"
	"slices"
	"strconv"
	"strings"
	"testing"

	"loop.example/g00315/impl"
)

// far is written out, so that the constant is asked for, too.
const far = 1000000000

// roadsOf reads roads from words: "01:5 12:-3" are one from 0 to 1 that costs 5, and one from 1 to 2 that costs -3.
func roadsOf(text string) []impl.Road {
	var l []impl.Road
	for _, word := range strings.Fields(text) {
		ends, cost, _ := strings.Cut(word, ":")
		n, err := strconv.Atoi(cost)
		if err != nil || len(ends) != 2 {
			panic(text)
		}
		l = append(l, impl.Road{From: int(ends[0] - '0'), To: int(ends[1] - '0'), Cost: n})
	}
	return l
}

// plainGoodRoads asks for the rules of roads one after another.
func plainGoodRoads(l []impl.Road) bool {
	for _, r := range l {
		if r.From < 0 || r.From > 7 || r.To < 0 || r.To > 7 || r.From == r.To || r.Cost < -100 || r.Cost > 100 {
			return false
		}
	}
	return len(l) <= 20
}

// plainEachRoadRow tells all rows of roads from a node on, the one of none first, in which no node is twice: where each leads, and what it costs.
func plainEachRoadRow(l []impl.Road, node int, row []int, been int, cost int, tell func(node int, row []int, cost int)) {
	tell(node, row, cost)
	for k, r := range l {
		if r.From == node && been>>r.To&1 == 0 {
			plainEachRoadRow(l, r.To, append(slices.Clip(row), k), been|1<<r.To, cost+r.Cost, tell)
		}
	}
}

func plainRowsFrom(l []impl.Road, from int, tell func(node int, row []int, cost int)) {
	plainEachRoadRow(l, from, nil, 1<<from, 0, tell)
}

// plainCheapestRound closes all rows by all roads that lead back: the least that any round costs, far where there is none.
func plainCheapestRound(l []impl.Road) int {
	least := far
	for from := range 8 {
		plainRowsFrom(l, from, func(node int, _ []int, cost int) {
			for _, r := range l {
				if r.From == node && r.To == from {
					least = min(least, cost+r.Cost)
				}
			}
		})
	}
	return least
}

// plainWithoutGain also asks for good roads; along others nobody can be followed.
func plainWithoutGain(l []impl.Road) bool {
	return plainGoodRoads(l) && plainCheapestRound(l) >= 0
}

// plainCosts tries all rows in which no node is twice; without gain none other is cheaper.
func plainCosts(l []impl.Road, from int) []int {
	costs := slices.Repeat([]int{far}, 8)
	plainRowsFrom(l, from, func(node int, _ []int, cost int) {
		costs[node] = min(costs[node], cost)
	})
	return costs
}

func plainAllCosts(l []impl.Road) [][]int {
	var all [][]int
	for from := range 8 {
		all = append(all, plainCosts(l, from))
	}
	return all
}

// checkRoads asks everything of roads, as said or not, between all nodes; also how often a way is there that WayBetween does not find.
func checkRoads(t *testing.T, l []impl.Road) int {
	t.Helper()
	was := slices.Clone(l)
	good, can := plainGoodRoads(l), plainWithoutGain(l)
	if ok := impl.GoodRoads(l); ok != good {
		t.Fatalf("GoodRoads(%v) = %v", l, ok)
	}
	if gain, ok := impl.HasGain(l); gain != (good && !can) || ok != good {
		t.Fatalf("HasGain(%v) = %v, %v, not %v, %v", l, gain, ok, good && !can, good)
	}
	var want [][]int
	if can {
		want = plainAllCosts(l)
	}
	all, ok := impl.AllCosts(l)
	if !sameWays(all, want) || ok != can {
		t.Fatalf("AllCosts(%v) = %v, %v, not %v, %v", l, all, ok, want, can)
	}
	checkCostsFrom(t, l, want, can)
	if can {
		checkNoneCheaper(t, l, all)
	}
	checkPotentials(t, l, want, can)
	missed := checkWaysBetween(t, l, want, can)
	if !slices.Equal(l, was) {
		t.Fatalf("written into: %v, once %v", l, was)
	}
	return missed
}

// checkCostsFrom asks CostFrom of each node, and of those that are none.
func checkCostsFrom(t *testing.T, l []impl.Road, want [][]int, can bool) {
	t.Helper()
	for _, from := range edgeNodes() {
		var costs []int
		if can && plainNode(from) {
			costs = want[from]
		}
		if told, ok := impl.CostFrom(l, from); !slices.Equal(told, costs) || ok != (can && plainNode(from)) {
			t.Fatalf("CostFrom(%v, %d) = %v, %v, not %v", l, from, told, ok, costs)
		}
	}
}

// checkNoneCheaper asks the program alone: no road makes a way cheaper than is told, and none leads from where one can get to where one cannot.
func checkNoneCheaper(t *testing.T, l []impl.Road, all [][]int) {
	t.Helper()
	for from, costs := range all {
		told, ok := impl.CostFrom(l, from)
		if !slices.Equal(told, costs) || !ok || costs[from] != 0 {
			t.Fatalf("AllCosts(%v)[%d] = %v, CostFrom tells %v, %v", l, from, costs, told, ok)
		}
		for k, r := range l {
			if costs[r.From] != impl.Far && costs[r.To] > costs[r.From]+r.Cost {
				t.Fatalf("AllCosts(%v)[%d] = %v: road %d is cheaper", l, from, costs, k)
			}
		}
		for to, cost := range costs {
			if cost != impl.Far && (cost < -700 || cost > 700) {
				t.Fatalf("AllCosts(%v)[%d][%d] = %d", l, from, to, cost)
			}
			for via := range all {
				if costs[via] != impl.Far && all[via][to] != impl.Far && cost > costs[via]+all[via][to] {
					t.Fatalf("AllCosts(%v) = %v: from %d to %d it is cheaper by %d", l, all, from, to, via)
				}
			}
		}
	}
}

// wantCosts names the costs from a node; those that are not named are far.
func wantCosts(t *testing.T, l []impl.Road, from int, want ...int) {
	t.Helper()
	checkRoads(t, l)
	want = append(want, slices.Repeat([]int{far}, 8-len(want))...)
	if costs, ok := impl.CostFrom(l, from); !slices.Equal(costs, want) || !ok {
		t.Errorf("CostFrom(%v, %d) = %v, %v, not %v", l, from, costs, ok, want)
	}
	if all, ok := impl.AllCosts(l); !ok || len(all) != 8 || !slices.Equal(all[from], want) {
		t.Errorf("AllCosts(%v) = %v, %v, of %d not %v", l, all, ok, from, want)
	}
}

func wantGain(t *testing.T, l []impl.Road, want bool) {
	t.Helper()
	checkRoads(t, l)
	if gain, ok := impl.HasGain(l); gain != want || !ok {
		t.Errorf("HasGain(%v) = %v, %v, not %v", l, gain, ok, want)
	}
	if want {
		wantNothing(t, "a gain", l)
	}
}

// wantNothing asks for the zero answer of all that need good roads without gain.
func wantNothing(t *testing.T, what string, l []impl.Road) {
	t.Helper()
	if all, ok := impl.AllCosts(l); len(all) != 0 || ok {
		t.Errorf("%s: AllCosts(%v) = %v, %v", what, l, all, ok)
	}
	if p, ok := impl.PotentialsOf(l); len(p) != 0 || ok {
		t.Errorf("%s: PotentialsOf(%v) = %v, %v", what, l, p, ok)
	}
	if reduced, ok := impl.ReducedRoads(l); len(reduced) != 0 || ok {
		t.Errorf("%s: ReducedRoads(%v) = %v, %v", what, l, reduced, ok)
	}
	for from := range 8 {
		wantNoCosts(t, what, l, from)
		for to := range 8 {
			wantNoWay(t, what, l, from, to)
		}
	}
}

func wantNoCosts(t *testing.T, what string, l []impl.Road, from int) {
	t.Helper()
	if costs, ok := impl.CostFrom(l, from); len(costs) != 0 || ok {
		t.Errorf("%s: CostFrom(%v, %d) = %v, %v", what, l, from, costs, ok)
	}
}

// someRoads has a way of two roads that is cheaper than the one road, as one of them is a gain, and a road away from where nobody can get.
func someRoads() []impl.Road {
	return roadsOf("01:5 12:-3 02:4 42:-100")
}

// anyRoads has costs between both bounds; there may be a gain.
func anyRoads(r *rand.Rand, many int, nodes int, least int, most int) []impl.Road {
	l := make([]impl.Road, many)
	for k := range l {
		from := r.Intn(nodes)
		l[k] = impl.Road{From: from, To: (from + 1 + r.Intn(nodes-1)) % nodes, Cost: least + r.Intn(most-least+1)}
	}
	return l
}

// anyHills has no gain: the nodes lie at unlike heights, down is gained what up costs, and each road costs up to most besides. Where that is 0 every round costs just 0.
func anyHills(r *rand.Rand, many int, nodes int, most int) []impl.Road {
	l := anyRoads(r, many, nodes, 0, most)
	high := make([]int, nodes)
	for node := range high {
		high[node] = r.Intn(40)
	}
	for k, x := range l {
		l[k].Cost += high[x.To] - high[x.From]
	}
	return l
}

func TestCostsKnown(t *testing.T) {
	wantCosts(t, someRoads(), 0, 0, 5, 2)
	wantCosts(t, someRoads(), 1, far, 0, -3)
	wantCosts(t, someRoads(), 2, far, far, 0)
	wantCosts(t, someRoads(), 4, far, far, -100, far, 0)
	// By several roads it is cheaper than by one, in whatever order they stand.
	l := roadsOf("03:10 01:3 12:3 23:3")
	wantCosts(t, l, 0, 0, 3, 6, 9)
	slices.Reverse(l)
	wantCosts(t, l, 0, 0, 3, 6, 9)
	wantCosts(t, roadsOf("03:9 01:3 12:3 23:3"), 0, 0, 3, 6, 9)
	wantCosts(t, roadsOf("03:8 01:3 12:3 23:3"), 0, 0, 3, 6, 8)
	// Further on what became cheaper late makes all cheaper.
	wantCosts(t, roadsOf("01:1 12:1 23:1 05:4 51:-4"), 0, 0, 0, 1, 2, far, 4)
	wantCosts(t, roadsOf("23:1 12:1 01:1 51:-4 05:4"), 0, 0, 0, 1, 2, far, 4)
	// Not the fewest roads, and not the cheapest first road.
	wantCosts(t, roadsOf("01:1 02:7 13:9 23:1 03:9"), 0, 0, 1, 7, 8)
}

func TestCostsBelowNothing(t *testing.T) {
	l := roadsOf("01:-1 12:-2 23:-3 30:6 03:-5")
	wantGain(t, l, false)
	wantCosts(t, l, 0, 0, -1, -3, -6)
	wantCosts(t, l, 1, 1, 0, -2, -5)
	wantCosts(t, l, 3, 6, 5, 3, 0)
	// What is gained only behind a dear road.
	wantCosts(t, roadsOf("01:100 12:-99 02:2"), 0, 0, 100, 1)
	wantCosts(t, roadsOf("01:100 12:-98 02:2"), 0, 0, 100, 2)
	wantCosts(t, roadsOf("01:100 12:-97 02:2"), 0, 0, 100, 2)
	// A round that costs something is never worth going.
	wantCosts(t, roadsOf("01:2 12:-5 21:6 23:1"), 0, 0, 2, -3, -2)
}

func TestFarStaysFar(t *testing.T) {
	if impl.Far != far {
		t.Fatal(impl.Far)
	}
	// Nobody gets to 4, 5 and 6, though roads with a cost below 0 lead from there on, to where one can get, too.
	l := roadsOf("45:-100 56:-100 61:-100 01:7")
	wantCosts(t, l, 0, 0, 7)
	wantCosts(t, l, 1, far, 0)
	wantCosts(t, l, 4, far, -300, far, far, 0, -100, -200)
	wantCosts(t, roadsOf("67:-100"), 0, 0)
	wantCosts(t, roadsOf("67:100"), 0, 0)
	wantCosts(t, roadsOf("10:-1 20:-1 30:-1"), 0, 0)
	// All the way along what is far, and round it at no cost.
	l = roadsOf("12:-100 23:-100 34:-100 45:-100 56:-100 67:-100")
	wantCosts(t, l, 0, 0)
	wantCosts(t, l, 1, far, 0, -100, -200, -300, -400, -500, -600)
	wantCosts(t, roadsOf("12:-100 21:100 12:100 10:-100"), 0, 0)
}

func TestGainsKnown(t *testing.T) {
	// Just below 0, just 0, just above: two roads, three, and all nodes round.
	for _, row := range []string{"01:5 10:", "01:-5 12:-5 20:", "76:10 65:-20 57:", "01:9 12:-9 23:9 34:-9 45:9 56:-9 67:9 70:"} {
		open := roadsOf(row + "0")
		rest := -plainCheapestRound(open)
		for less, want := range map[int]bool{-2: true, -1: true, 0: false, 1: false} {
			l := slices.Clone(open)
			l[len(l)-1].Cost = rest + less
			wantGain(t, l, want)
			slices.Reverse(l)
			wantGain(t, l, want)
		}
	}
	wantGain(t, append(someRoads(), roadsOf("20:-3")...), true)
	wantGain(t, append(someRoads(), roadsOf("20:-2")...), false)
	wantGain(t, append(someRoads(), roadsOf("20:-1")...), false)
	// A gain that is in one round of several, by the dearer of two roads or by the cheaper one.
	wantGain(t, roadsOf("01:1 10:1 12:1 20:-3"), true)
	wantGain(t, roadsOf("01:1 10:1 12:1 20:-2"), false)
	wantGain(t, roadsOf("01:4 10:-4 01:3"), true)
	wantGain(t, roadsOf("01:3 10:-4 01:4"), true)
	wantGain(t, roadsOf("01:5 10:-4 01:4"), false)
	// Costs below 0, but no way round.
	wantGain(t, roadsOf("01:-100 12:-100 02:-100 23:-100"), false)
	wantGain(t, roadsOf("01:-100 01:-100"), false)
	wantGain(t, roadsOf("01:-1 10:-1"), true)
	wantGain(t, roadsOf("01:-1 10:1"), false)
	// Where a gain is does not count, nor whether anybody gets there or away.
	for _, gain := range []string{"01:1 10:-2", "67:1 76:-2", "07:1 70:-2", "34:-50 45:-50 53:99"} {
		for _, rest := range []string{"", "01:5 12:5", "56:3 35:3", "23:100 43:100"} {
			wantGain(t, roadsOf(gain+" "+rest), true)
			wantGain(t, roadsOf(rest+" "+gain), true)
		}
	}
	// Two rounds that share a node are a gain where one of them is, though both together are none.
	wantGain(t, roadsOf("01:1 10:-2 02:100 20:100"), true)
	wantGain(t, roadsOf("01:1 10:-1 02:100 20:-100"), false)
}

func TestNoRoads(t *testing.T) {
	for _, l := range [][]impl.Road{nil, {}} {
		if !impl.GoodRoads(l) {
			t.Errorf("%v are not good", l)
		}
		wantGain(t, l, false)
		wantCosts(t, l, 0, 0)
		wantCosts(t, l, 7, far, far, far, far, far, far, far, 0)
		wantPotentials(t, l, 0, 0, 0, 0, 0, 0, 0, 0)
		wantReduced(t, l)
		wantWayBetween(t, l, 0, 0)
		wantWayBetween(t, l, 7, 7)
		wantNoWay(t, "no roads", l, 0, 7)
		all, ok := impl.AllCosts(l)
		for from := range 8 {
			for to := range 8 {
				if want := map[bool]int{true: 0, false: far}[from == to]; !ok || all[from][to] != want {
					t.Errorf("AllCosts(%v)[%d][%d] = %d, not %d", l, from, to, all[from][to], want)
				}
			}
		}
	}
}

func TestMaxPipesRoads(t *testing.T) {
	l := slices.Repeat(roadsOf("07:3"), 20)
	if !impl.GoodRoads(l) {
		t.Error("20 roads are not good")
	}
	wantCosts(t, l, 0, 0, far, far, far, far, far, far, 3)
	wantWayBetween(t, l, 0, 7, 0)
	l[19].Cost = 2
	wantCosts(t, l, 0, 0, far, far, far, far, far, far, 2)
	wantWayBetween(t, l, 0, 7, 19)
	l = roadsOf("67:1 76:0 56:1 65:0 45:1 54:0 34:1 43:0 23:1 32:0 12:1 21:0 01:1 10:0 02:3 13:3 24:3 35:3 46:3 57:3")
	wantCosts(t, l, 0, 0, 1, 2, 3, 4, 5, 6, 7)
	wantCosts(t, l, 7, 0, 0, 0, 0, 0, 0, 0, 0)
	wantWayBetween(t, l, 0, 7, 12, 10, 8, 6, 4, 2, 0)
	wantWayBetween(t, l, 7, 0, 1, 3, 5, 7, 9, 11, 13)
	l[19] = roadsOf("70:-7")[0]
	wantGain(t, l, false)
	l[19] = roadsOf("70:-8")[0]
	wantGain(t, l, true)
}

func TestRoadCostsAtTheirBounds(t *testing.T) {
	for _, cost := range []int{-100, -99, -1, 0, 1, 99, 100} {
		wantCosts(t, []impl.Road{{From: 0, To: 1, Cost: cost}}, 0, 0, cost)
		wantWayBetween(t, []impl.Road{{From: 0, To: 7, Cost: cost}}, 0, 7, 0)
		wantPotentials(t, []impl.Road{{From: 0, To: 7, Cost: cost}}, 0, 0, 0, 0, 0, 0, 0, min(cost, 0))
	}
	dear := roadsOf("01:100 12:100 23:100 34:100 45:100 56:100 67:100")
	wantCosts(t, dear, 0, 0, 100, 200, 300, 400, 500, 600, 700)
	wantCosts(t, append(dear, roadsOf("70:-100")...), 7, -100, 0, 100, 200, 300, 400, 500, 0)
	cheap := roadsOf("67:-100 56:-100 45:-100 34:-100 23:-100 12:-100 01:-100")
	wantCosts(t, cheap, 0, 0, -100, -200, -300, -400, -500, -600, -700)
	wantCosts(t, append(cheap, roadsOf("07:100")...), 0, 0, -100, -200, -300, -400, -500, -600, -700)
	wantGain(t, append(cheap, roadsOf("70:100")...), true)
	wantGain(t, append(cheap, roadsOf("10:100")...), false)
	wantGain(t, append(cheap, roadsOf("10:99")...), true)
	wantGain(t, roadsOf("01:-100 10:-100 01:100 10:100"), true)
	wantGain(t, roadsOf("01:100 10:-100"), false)
}

func TestRoadsBetweenTheSame(t *testing.T) {
	wantCosts(t, roadsOf("01:5 01:4"), 0, 0, 4)
	wantCosts(t, roadsOf("01:4 01:5"), 0, 0, 4)
	wantCosts(t, roadsOf("01:-5 01:-4 01:-5"), 0, 0, -5)
	wantCosts(t, roadsOf("01:3 10:4"), 0, 0, 3)
	wantCosts(t, roadsOf("01:3 10:4"), 1, 4, 0)
	wantCosts(t, roadsOf("01:5 12:1 01:4 12:-1"), 0, 0, 4, 3)
}

func TestToItself(t *testing.T) {
	for _, l := range [][]impl.Road{nil, someRoads(), roadsOf("01:5 10:-5"), roadsOf("01:100 10:100 70:-100 07:100")} {
		all, ok := impl.AllCosts(l)
		for node := range 8 {
			if costs, _ := impl.CostFrom(l, node); !ok || all[node][node] != 0 || costs[node] != 0 {
				t.Errorf("%v: from %d to itself %d, %d", l, node, all[node][node], costs[node])
			}
			wantWayBetween(t, l, node, node)
		}
	}
}

// wrongRoads break each one rule of a road.
func wrongRoads() map[string]impl.Road {
	return map[string]impl.Road{
		"From -1":           {From: -1, To: 1, Cost: 1},
		"From MaxNodes":     {From: 8, To: 1, Cost: 1},
		"From least of all": {From: math.MinInt, To: 1, Cost: 1},
		"From most of all":  {From: math.MaxInt, To: 1, Cost: 1},
		"To -1":             {From: 0, To: -1, Cost: 1},
		"To MaxNodes":       {From: 0, To: 8, Cost: 1},
		"To least of all":   {From: 0, To: math.MinInt, Cost: 1},
		"To most of all":    {From: 0, To: math.MaxInt, Cost: 1},
		"to itself":         {From: 1, To: 1, Cost: 1},
		"to itself, a gain": {From: 1, To: 1, Cost: -1},
		"to itself, last":   {From: 7, To: 7, Cost: 1},
		"nothing":           {},
		"Cost -101":         {From: 0, To: 1, Cost: -101},
		"Cost 101":          {From: 0, To: 1, Cost: 101},
		"Cost Far":          {From: 0, To: 1, Cost: far},
		"Cost -Far":         {From: 0, To: 1, Cost: -far},
		"Cost least of all": {From: 0, To: 1, Cost: math.MinInt},
		"Cost most of all":  {From: 0, To: 1, Cost: math.MaxInt},
	}
}

// wantBadRoads asks all functions at arguments that would do with good roads.
func wantBadRoads(t *testing.T, what string, l []impl.Road) {
	t.Helper()
	if plainGoodRoads(l) || impl.GoodRoads(l) {
		t.Errorf("%s: %v are good", what, l)
	}
	if gain, ok := impl.HasGain(l); gain || ok {
		t.Errorf("%s: HasGain(%v) = %v, %v", what, l, gain, ok)
	}
	wantNothing(t, what, l)
	checkRoads(t, l)
}

func TestBadRoads(t *testing.T) {
	for what, x := range wrongRoads() {
		wantBadRoads(t, what, []impl.Road{x})
		wantBadRoads(t, what+", the first", append([]impl.Road{x}, someRoads()...))
		wantBadRoads(t, what+", the last", append(someRoads(), x))
		wantBadRoads(t, what+", beside a gain", append(roadsOf("01:1 10:-2"), x))
		wantBadRoads(t, what+", the last of 20", append(slices.Repeat(roadsOf("01:1"), 19), x))
	}
	l := slices.Repeat(roadsOf("01:1"), 21)
	wantBadRoads(t, "one more than MaxPipes", l)
	wantBadRoads(t, "many more than MaxPipes", slices.Repeat(l, 40))
	wantBadRoads(t, "one more than MaxPipes, a gain", append(l[:19:19], roadsOf("23:-1 32:-1")...))
}

func TestCostsFromWrongNodes(t *testing.T) {
	for _, l := range [][]impl.Road{nil, someRoads(), roadsOf("01:1 10:-2")} {
		for _, bad := range []int{math.MinInt, -8, -1, 8, 9, 20, math.MaxInt} {
			wantNoCosts(t, "no node", l, bad)
			for _, other := range []int{0, 2, 7, bad} {
				wantNoWay(t, "no node", l, bad, other)
				wantNoWay(t, "no node", l, other, bad)
			}
		}
		checkRoads(t, l)
	}
}

// TestRoadsOfAllSmall asks all roads among three nodes, none or one each way, with costs about 0.
func TestRoadsOfAllSmall(t *testing.T) {
	ends := linksOf("01 02 10 12 20 21")
	gains := 0
	for code := range 4 * 4 * 4 * 4 * 4 * 4 {
		var l []impl.Road
		for _, x := range ends {
			if code%4 > 0 {
				l = append(l, impl.Road{From: x.From, To: x.To, Cost: code%4 - 2})
			}
			code /= 4
		}
		checkRoads(t, l)
		if gain, _ := impl.HasGain(l); gain {
			gains++
		}
	}
	if gains < 1000 || gains > 3000 {
		t.Errorf("%d gains", gains)
	}
}

// TestEachThreeRoads asks each choice of three roads among four nodes, beside two that stay.
func TestEachThreeRoads(t *testing.T) {
	var all []impl.Road
	for _, x := range linksOf("01 02 03 10 12 13 20 21 23 30 31 32") {
		all = append(all, impl.Road{From: x.From, To: x.To, Cost: 2}, impl.Road{From: x.From, To: x.To, Cost: -1})
	}
	for _, a := range all {
		for _, b := range all {
			for _, c := range all {
				checkRoads(t, []impl.Road{a, {From: 1, To: 3, Cost: 1}, b, {From: 0, To: 1, Cost: 1}, c})
			}
		}
	}
}

func TestNoRoadMakesAWayCheaper(t *testing.T) {
	r := rand.New(rand.NewSource(11))
	gains := 0
	for range 1500 {
		least, most := -r.Intn(101), r.Intn(101)
		if r.Intn(2) == 0 {
			least = -r.Intn(5)
		}
		l := anyRoads(r, r.Intn(21), 2+r.Intn(7), least, most)
		checkRoads(t, l)
		if gain, _ := impl.HasGain(l); gain {
			gains++
		}
	}
	if gains < 300 || gains > 1200 {
		t.Errorf("%d gains", gains)
	}
	for range 1500 {
		checkRoads(t, anyHills(r, r.Intn(21), 2+r.Intn(7), r.Intn(50)))
	}
}

// TestOneLessIsAGain makes roads of rounds that cost just 0 cheaper by 1, one after the other.
func TestOneLessIsAGain(t *testing.T) {
	r := rand.New(rand.NewSource(111))
	gains, none := 0, 0
	for range 150 {
		l := anyHills(r, 4+r.Intn(14), 3+r.Intn(6), 0)
		wantGain(t, l, false)
		for k := range l {
			l[k].Cost--
			checkRoads(t, l)
			if gain, _ := impl.HasGain(l); gain {
				gains++
			} else {
				none++
			}
			l[k].Cost++
		}
	}
	if gains < 300 || none < 300 {
		t.Errorf("%d gains, %d none", gains, none)
	}
}

func TestRoadsMixed(t *testing.T) {
	r := rand.New(rand.NewSource(1111))
	some := []int{math.MinInt, -far, -101, -100, -1, 0, 0, 1, 2, 3, 3, 4, 5, 6, 7, 7, 8, 20, 100, 101, far, math.MaxInt}
	one := func() int { return some[r.Intn(len(some))] }
	good := 0
	for range 2000 {
		l := anyRoads(r, r.Intn(23), 2+r.Intn(7), -5, 50)
		for range r.Intn(3) {
			if len(l) == 0 {
				break
			}
			switch k := r.Intn(len(l)); r.Intn(3) {
			case 0:
				l[k].From = one()
			case 1:
				l[k].To = one()
			default:
				l[k].Cost = one()
			}
		}
		checkRoads(t, l)
		if impl.GoodRoads(l) {
			good++
		}
	}
	if good < 500 || good > 1700 {
		t.Errorf("%d of 2000 are good", good)
	}
}
