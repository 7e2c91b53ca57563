package tests

import (
	"math"
	"math/bits"
	"math/rand"
	"slices"
	"testing"

	"loop.example/g00315/impl"
)

// linksOf reads links from pairs of digits: "01 13" are one from 0 to 1 and one from 1 to 3.
func linksOf(text string) []impl.Link {
	var l []impl.Link
	for at := 0; at < len(text); at += 3 {
		l = append(l, impl.Link{From: int(text[at] - '0'), To: int(text[at+1] - '0')})
	}
	return l
}

// plainGoodLinks asks for the rules of links one after another.
func plainGoodLinks(l []impl.Link) bool {
	for _, x := range l {
		if x.From < 0 || x.From > 7 || x.To < 0 || x.To > 7 || x.From == x.To {
			return false
		}
	}
	return len(l) <= 20
}

func plainCanGo(l []impl.Link, from int, to int) bool {
	return plainGoodLinks(l) && plainNode(from) && plainNode(to) && from != to
}

// plainOnes are pipes of Cap 1.
func plainOnes(l []impl.Link) []impl.Pipe {
	var pipes []impl.Pipe
	for _, x := range l {
		pipes = append(pipes, pipe(x.From, x.To, 1))
	}
	return pipes
}

// plainWays follows each way to its end and only then goes it once more, by the last link that left each node; also how often one came to a node again.
func plainWays(l []impl.Link, from int, to int) ([][]int, int) {
	var ways [][]int
	again := 0
	flow := plainMaxFlow(plainOnes(l), from, to)
	_, many := plainMinCut(plainOnes(l), from, to)
	for range many {
		last := map[int]int{}
		for node := from; node != to; {
			for k, x := range l {
				if x.From == node && flow[k] == 1 {
					if _, was := last[node]; was {
						again++
					}
					last[node], flow[k], node = k, 0, x.To
					break
				}
			}
		}
		var way []int
		for node := from; node != to; node = l[last[node]].To {
			way = append(way, last[node])
		}
		ways = append(ways, way)
	}
	return ways, again
}

// plainFewest are the links out of the least side that a least cut has.
func plainFewest(l []impl.Link, from int, to int) []int {
	side, _ := plainMinCut(plainOnes(l), from, to)
	var cut []int
	for k, x := range l {
		if slices.Contains(side, x.From) && !slices.Contains(side, x.To) {
			cut = append(cut, k)
		}
	}
	return cut
}

// plainFewestOfSets leaves out every set of links: how few of them are enough.
func plainFewestOfSets(l []impl.Link, from int, to int) int {
	fewest := len(l)
	for set := range 1 << len(l) {
		if !slices.Contains(plainReached(l, from, chosen(set)), to) {
			fewest = min(fewest, bits.OnesCount(uint(set)))
		}
	}
	return fewest
}

// plainWaySets are all ways, each a set of links told by its bits.
func plainWaySets(l []impl.Link, from int, to int, been int) []int {
	if from == to {
		return []int{0}
	}
	var sets []int
	for k, x := range l {
		if x.From == from && been>>x.To&1 == 0 {
			for _, set := range plainWaySets(l, x.To, to, been|1<<x.To) {
				sets = append(sets, set|1<<k)
			}
		}
	}
	return sets
}

// plainMostOfSets tries every choice of ways that share no link: how many there are at most.
func plainMostOfSets(sets []int, used int) int {
	most := 0
	for i, set := range sets {
		if set&used == 0 {
			most = max(most, 1+plainMostOfSets(sets[i+1:], used|set))
		}
	}
	return most
}

func sameWays(a [][]int, b [][]int) bool {
	return slices.EqualFunc(a, b, slices.Equal[[]int])
}

// checkApart asks GoodLinks, WaysApart and FewestToCut, as said or not, and holds the one against the other; also how often a way that was followed came to a node again.
func checkApart(t *testing.T, l []impl.Link, from int, to int) ([][]int, []int, int) {
	t.Helper()
	was := slices.Clone(l)
	can := plainCanGo(l, from, to)
	var want [][]int
	var fewest []int
	again := 0
	if can {
		want, again = plainWays(l, from, to)
		fewest = plainFewest(l, from, to)
	}
	if ok := impl.GoodLinks(l); ok != plainGoodLinks(l) {
		t.Fatalf("GoodLinks(%v) = %v", l, ok)
	}
	ways, ok := impl.WaysApart(l, from, to)
	if !sameWays(ways, want) || ok != can {
		t.Fatalf("WaysApart(%v, %d, %d) = %v, %v, not %v, %v", l, from, to, ways, ok, want, can)
	}
	cut, ok := impl.FewestToCut(l, from, to)
	if !slices.Equal(cut, fewest) || ok != can {
		t.Fatalf("FewestToCut(%v, %d, %d) = %v, %v, not %v, %v", l, from, to, cut, ok, fewest, can)
	}
	if can {
		checkAsManyAsCut(t, l, from, to, ways, cut)
	}
	if !slices.Equal(l, was) {
		t.Fatalf("written into: %v, once %v", l, was)
	}
	return ways, cut, again
}

// checkAsManyAsCut asks the program alone: as many ways as links to cut, all of them ways and apart; the links cut, and none of them could stay.
func checkAsManyAsCut(t *testing.T, l []impl.Link, from int, to int, ways [][]int, cut []int) {
	t.Helper()
	if len(ways) != len(cut) {
		t.Fatalf("%v from %d to %d: ways %v, to cut %v", l, from, to, ways, cut)
	}
	for _, way := range ways {
		if is, ok := impl.IsWay(l, from, to, way); !is || !ok {
			t.Fatalf("IsWay(%v, %d, %d, %v) = %v, %v", l, from, to, way, is, ok)
		}
	}
	if apart, ok := impl.AreApart(ways); !apart || !ok {
		t.Fatalf("WaysApart(%v, %d, %d) = %v: AreApart tells %v, %v", l, from, to, ways, apart, ok)
	}
	if nodes, ok := impl.ReachedBy(l, from, cut); slices.Contains(nodes, to) || !ok {
		t.Fatalf("FewestToCut(%v, %d, %d) = %v: there are still %v, %v", l, from, to, cut, nodes, ok)
	}
	for _, k := range cut {
		if nodes, ok := impl.ReachedBy(l, from, without(cut, k)); !slices.Contains(nodes, to) || !ok {
			t.Fatalf("FewestToCut(%v, %d, %d) = %v: without %d there are but %v, %v", l, from, to, cut, k, nodes, ok)
		}
	}
}

// checkEverySet holds both against all sets of links.
func checkEverySet(t *testing.T, l []impl.Link, from int, to int) {
	t.Helper()
	ways, cut, _ := checkApart(t, l, from, to)
	if fewest := plainFewestOfSets(l, from, to); len(cut) != fewest {
		t.Fatalf("FewestToCut(%v, %d, %d) = %v, %d are enough", l, from, to, cut, fewest)
	}
	if most := plainMostOfSets(plainWaySets(l, from, to, 1<<from), 0); len(ways) != most {
		t.Fatalf("WaysApart(%v, %d, %d) = %v, there are %d", l, from, to, ways, most)
	}
}

// askOfLinks asks everything of these links: between all nodes, and those that are none.
func askOfLinks(t *testing.T, l []impl.Link) {
	t.Helper()
	for _, from := range edgeNodes() {
		for _, to := range edgeNodes() {
			ways, cut, _ := checkApart(t, l, from, to)
			for _, way := range append([][]int{nil, {0}, {0, 0}, {len(l)}, cut}, ways...) {
				checkWay(t, l, from, to, way)
			}
			checkReached(t, l, from, cut)
		}
		for _, some := range [][]int{nil, allLinks(l), {0}, {len(l) - 1}, {len(l)}, {-1}, {1, 0}} {
			checkReached(t, l, from, some)
		}
	}
}

func wantApart(t *testing.T, l []impl.Link, from int, to int, want ...[]int) {
	t.Helper()
	if ways, _, _ := checkApart(t, l, from, to); !sameWays(ways, want) {
		t.Errorf("WaysApart(%v, %d, %d) = %v, not %v", l, from, to, ways, want)
	}
	if _, ok := impl.WaysApart(l, from, to); !ok {
		t.Errorf("WaysApart(%v, %d, %d) tells false", l, from, to)
	}
}

func wantFewest(t *testing.T, l []impl.Link, from int, to int, want ...int) {
	t.Helper()
	if _, cut, _ := checkApart(t, l, from, to); !slices.Equal(cut, want) {
		t.Errorf("FewestToCut(%v, %d, %d) = %v, not %v", l, from, to, cut, want)
	}
	if _, ok := impl.FewestToCut(l, from, to); !ok {
		t.Errorf("FewestToCut(%v, %d, %d) tells false", l, from, to)
	}
}

// wantRound asks for ways of which one that is followed comes so often to a node again.
func wantRound(t *testing.T, l []impl.Link, from int, to int, often int, want ...[]int) {
	t.Helper()
	if _, _, again := checkApart(t, l, from, to); again != often {
		t.Errorf("%v from %d to %d: %d times at a node again, not %d", l, from, to, again, often)
	}
	wantApart(t, l, from, to, want...)
}

func wantNoApart(t *testing.T, what string, l []impl.Link, from int, to int) {
	t.Helper()
	if ways, ok := impl.WaysApart(l, from, to); len(ways) != 0 || ok {
		t.Errorf("%s: WaysApart(%v, %d, %d) = %v, %v", what, l, from, to, ways, ok)
	}
	if cut, ok := impl.FewestToCut(l, from, to); len(cut) != 0 || ok {
		t.Errorf("%s: FewestToCut(%v, %d, %d) = %v, %v", what, l, from, to, cut, ok)
	}
}

// someLinks has two ways from 0 to 3, one by 1 and one by 2, and a link across.
func someLinks() []impl.Link {
	return linksOf("01 02 13 23 12")
}

// linksGoingRound has two ways from 0 to 3; what flows between 1 and 2 flows back again, by a link that stands ahead of the one to go back along, and of the one that leads on.
func linksGoingRound() []impl.Link {
	return linksOf("01 05 52 21 23 73 12 17")
}

// linksGoingRoundTwice has three ways from 0 to 3; the first that is followed comes to 4 and to 2 twice, and leaves 4 by another link then.
func linksGoingRoundTwice() []impl.Link {
	return linksOf("24 04 42 23 42 04 31 23 01 53 45 12")
}

// linksRoundBesides has two ways from 0 to 3; what flows round between 1 and 2 is on none that is followed.
func linksRoundBesides() []impl.Link {
	return linksOf("23 21 73 16 04 45 52 01 67 12")
}

func anyLinks(r *rand.Rand, many int, nodes int) []impl.Link {
	l := make([]impl.Link, many)
	for k := range l {
		from := r.Intn(nodes)
		l[k] = impl.Link{From: from, To: (from + 1 + r.Intn(nodes-1)) % nodes}
	}
	return l
}

func TestApartInARow(t *testing.T) {
	row := linksOf("01 12 23")
	wantApart(t, row, 0, 3, []int{0, 1, 2})
	wantFewest(t, row, 0, 3, 0)
	wantApart(t, row, 1, 3, []int{1, 2})
	wantFewest(t, row, 1, 3, 1)
	wantApart(t, row, 0, 2, []int{0, 1})
	wantApart(t, linksOf("76 65 54 43 32 21 10"), 7, 0, []int{0, 1, 2, 3, 4, 5, 6})
	wantApart(t, linksOf("23 12 01"), 0, 3, []int{2, 1, 0})
	wantFewest(t, linksOf("23 12 01"), 0, 3, 2)
	// Of as few the nearest to from; two side by side in the row are no such ones.
	wantFewest(t, linksOf("01 01 12 23"), 0, 3, 2)
	wantFewest(t, linksOf("01 01 12 12 23"), 0, 3, 4)
	wantApart(t, linksOf("01 01 12 12 23"), 0, 3, []int{0, 2, 4})
}

func TestApartSideBySide(t *testing.T) {
	wantApart(t, someLinks(), 0, 3, []int{0, 2}, []int{1, 3})
	wantFewest(t, someLinks(), 0, 3, 0, 1)
	wantApart(t, someLinks(), 0, 2, []int{0, 4}, []int{1})
	wantFewest(t, someLinks(), 0, 2, 0, 1)
	wantApart(t, someLinks(), 1, 3, []int{2}, []int{4, 3})
	wantFewest(t, someLinks(), 1, 3, 2, 4)
	wantApart(t, linksOf("61 65 15 62 25 63 35"), 6, 5, []int{0, 2}, []int{1}, []int{3, 4}, []int{5, 6})
	// The first link with flow decides which way is told first, not how short it is.
	wantApart(t, linksOf("03 01 13"), 0, 3, []int{0}, []int{1, 2})
	wantApart(t, linksOf("01 13 03"), 0, 3, []int{0, 1}, []int{2})
	// Ways share a node, not a link: at 4 each goes on by the first that is left.
	cross := linksOf("01 02 14 24 45 46 53 63")
	wantApart(t, cross, 0, 3, []int{0, 2, 4, 6}, []int{1, 3, 5, 7})
	slices.Reverse(cross)
	wantApart(t, cross, 0, 3, []int{6, 4, 2, 0}, []int{7, 5, 3, 1})
	wantFewest(t, cross, 0, 3, 6, 7)
	// What the shortest one took comes back: neither goes by the link across.
	wantApart(t, linksOf("01 12 23 04 45 52 16 67 73"), 0, 3, []int{0, 6, 7, 8}, []int{3, 4, 5, 2})
	// A link to cut in the middle, and at last; what leads back does not count.
	wantFewest(t, linksOf("01 02 14 24 43 34 40"), 0, 3, 4)
	wantFewest(t, linksOf("01 02 14 24 45 46 53 63 45"), 0, 3, 0, 1)
	wantFewest(t, linksOf("01 02 05 14 24 54 46 63 43 64"), 0, 3, 6, 8)
}

func TestApartWithRounds(t *testing.T) {
	l := linksOf("01 12 24 41 43 30")
	wantRound(t, l, 0, 3, 0, []int{0, 1, 2, 4})
	wantRound(t, l, 4, 2, 0, []int{3, 1})
	wantRound(t, linksOf("01 10 12 21 23 32"), 0, 3, 0, []int{0, 2, 4})
	wantRound(t, linksOf("10 01 21 12 32 23"), 0, 3, 0, []int{1, 3, 5})
	wantRound(t, linksOf("10 01 21 12 32 23"), 3, 0, 0, []int{4, 2, 0})
}

func TestWhatGoesRoundIsLeftOut(t *testing.T) {
	if flow, _, _ := impl.MaxFlow(plainOnes(linksGoingRound()), 0, 3); !slices.Equal(flow, []int{1, 1, 1, 1, 1, 1, 1, 1}) {
		t.Errorf("%v flows", flow)
	}
	wantRound(t, linksGoingRound(), 0, 3, 1, []int{0, 7, 5}, []int{1, 2, 4})
	wantFewest(t, linksGoingRound(), 0, 3, 0, 1)
	// Followed are 1, 2, 0, 4, 3: of both links from 4 to 2 the last that left it is told.
	wantRound(t, linksGoingRoundTwice(), 0, 3, 2, []int{1, 4, 3}, []int{5, 10, 9}, []int{8, 11, 7})
	wantFewest(t, linksGoingRoundTwice(), 0, 3, 1, 5, 8)
	wantRound(t, linksRoundBesides(), 0, 3, 0, []int{4, 5, 6, 0}, []int{7, 3, 8, 2})
	// The round is on the second and on the third.
	wantRound(t, linksOf("21 70 54 03 23 12 01 16 52 63 35 57 72 07 53"), 0, 3, 1, []int{3}, []int{6, 7, 9}, []int{13, 12, 4})
	wantRound(t, linksOf("41 16 23 02 30 16 23 62 14 01 50 05 54 26 43"), 0, 3, 1, []int{3, 2}, []int{9, 1, 7, 6}, []int{11, 12, 14})
	// With the link to go back along ahead nothing goes round.
	l := linksGoingRound()
	l[3], l[6] = l[6], l[3]
	wantRound(t, l, 0, 3, 0, []int{0, 7, 5}, []int{1, 2, 4})
}

func TestNoLinks(t *testing.T) {
	for _, l := range [][]impl.Link{nil, {}} {
		if !impl.GoodLinks(l) {
			t.Errorf("%v are not good", l)
		}
		wantApart(t, l, 0, 7)
		wantFewest(t, l, 0, 7)
		wantWay(t, l, 0, 7, false)
		wantReached(t, l, 0, nil, 0)
		wantReached(t, l, 7, []int{}, 7)
		askOfLinks(t, l)
	}
}

func TestMaxPipesLinks(t *testing.T) {
	l := slices.Repeat(linksOf("07"), 20)
	if !impl.GoodLinks(l) {
		t.Error("20 links are not good")
	}
	var ways [][]int
	for k := range l {
		ways = append(ways, []int{k})
	}
	wantApart(t, l, 0, 7, ways...)
	wantFewest(t, l, 0, 7, allLinks(l)...)
	wantApart(t, l, 7, 0)
	askOfLinks(t, l)
	// Ten ways of two links each, all by one node, and six by one node each.
	l = append(slices.Repeat(linksOf("04"), 10), slices.Repeat(linksOf("47"), 10)...)
	ways = nil
	for k := range 10 {
		ways = append(ways, []int{k, k + 10})
	}
	wantApart(t, l, 0, 7, ways...)
	wantFewest(t, l, 0, 7, 0, 1, 2, 3, 4, 5, 6, 7, 8, 9)
	l = linksOf("01 02 03 04 05 06 17 27 37 47 57 67 07 07 10 20 71 72 12 21")
	wantApart(t, l, 0, 7, []int{0, 6}, []int{1, 7}, []int{2, 8}, []int{3, 9}, []int{4, 10}, []int{5, 11}, []int{12}, []int{13})
	askOfLinks(t, l)
}

func TestLinksBetweenTheSame(t *testing.T) {
	wantApart(t, linksOf("01 01"), 0, 1, []int{0}, []int{1})
	wantFewest(t, linksOf("01 01"), 0, 1, 0, 1)
	wantApart(t, linksOf("01 10"), 0, 1, []int{0})
	wantFewest(t, linksOf("01 10"), 0, 1, 0)
	wantApart(t, linksOf("01 10"), 1, 0, []int{1})
	wantFewest(t, linksOf("01 10"), 1, 0, 1)
	wantApart(t, linksOf("01 01 12"), 0, 2, []int{0, 2})
	wantApart(t, linksOf("01 10 01 12 21 12"), 0, 2, []int{0, 3}, []int{2, 5})
	wantFewest(t, linksOf("01 10 01 12 21 12"), 0, 2, 0, 2)
}

func TestNoWayAtAll(t *testing.T) {
	for _, l := range [][]impl.Link{linksOf("30"), linksOf("01 23"), linksOf("10 20 31 32"), linksOf("01 12 20 45 53")} {
		wantApart(t, l, 0, 3)
		wantFewest(t, l, 0, 3)
		askOfLinks(t, l)
	}
	wantApart(t, someLinks(), 3, 0)
	wantFewest(t, someLinks(), 3, 0)
	wantApart(t, someLinks(), 0, 7)
	wantFewest(t, someLinks(), 7, 0)
}

func TestLinkedDirectly(t *testing.T) {
	wantApart(t, linksOf("03"), 0, 3, []int{0})
	wantFewest(t, linksOf("03"), 0, 3, 0)
	l := append(someLinks(), linksOf("03 30")...)
	wantApart(t, l, 0, 3, []int{0, 2}, []int{1, 3}, []int{5})
	wantFewest(t, l, 0, 3, 0, 1, 5)
	wantApart(t, l, 3, 0, []int{6})
	wantFewest(t, l, 3, 0, 6)
}

// wrongLinks break each one rule of a link.
func wrongLinks() map[string]impl.Link {
	return map[string]impl.Link{
		"From -1":           {From: -1, To: 1},
		"From MaxNodes":     {From: 8, To: 1},
		"From least of all": {From: math.MinInt, To: 1},
		"From most of all":  {From: math.MaxInt, To: 1},
		"To -1":             {From: 0, To: -1},
		"To MaxNodes":       {From: 0, To: 8},
		"To least of all":   {From: 0, To: math.MinInt},
		"To most of all":    {From: 0, To: math.MaxInt},
		"to itself":         {From: 1, To: 1},
		"to itself, last":   {From: 7, To: 7},
		"nothing":           {},
	}
}

// wantBadLinks asks all functions at arguments that would do with good links.
func wantBadLinks(t *testing.T, what string, l []impl.Link) {
	t.Helper()
	if plainGoodLinks(l) || impl.GoodLinks(l) {
		t.Errorf("%s: %v are good", what, l)
	}
	for _, to := range []int{1, 7} {
		wantNoApart(t, what, l, 0, to)
		for _, way := range [][]int{nil, {}, {0}, {0, 1}} {
			wantNoIsWay(t, what, l, 0, to, way)
		}
	}
	for _, some := range [][]int{nil, {}, {0}, allLinks(l)} {
		wantNoReached(t, what, l, 0, some)
	}
	askOfLinks(t, l)
}

func TestBadLinks(t *testing.T) {
	for what, x := range wrongLinks() {
		wantBadLinks(t, what, []impl.Link{x})
		wantBadLinks(t, what+", the first", append([]impl.Link{x}, someLinks()...))
		wantBadLinks(t, what+", the last", append(someLinks(), x))
		wantBadLinks(t, what+", the last of 20", append(slices.Repeat(linksOf("01"), 19), x))
	}
	l := slices.Repeat(linksOf("01"), 21)
	wantBadLinks(t, "one more than MaxPipes", l)
	wantBadLinks(t, "many more than MaxPipes", slices.Repeat(l, 40))
}

func TestApartBetweenWrongNodes(t *testing.T) {
	for _, l := range [][]impl.Link{nil, someLinks()} {
		for _, bad := range []int{math.MinInt, -8, -1, 8, 9, math.MaxInt} {
			for _, other := range []int{0, 3, 7, bad} {
				wantNoApart(t, "no node", l, bad, other)
				wantNoApart(t, "no node", l, other, bad)
				wantNoIsWay(t, "no node", l, bad, other, nil)
				wantNoIsWay(t, "no node", l, other, bad, nil)
			}
			wantNoReached(t, "no node", l, bad, nil)
		}
		for node := range 8 {
			wantNoApart(t, "alike", l, node, node)
			wantNoIsWay(t, "alike", l, node, node, nil)
		}
	}
	wantNoIsWay(t, "no node", someLinks(), 0, 8, []int{0, 2})
	wantNoIsWay(t, "no node", someLinks(), -1, 3, []int{0, 2})
	wantNoIsWay(t, "alike", linksOf("01 10"), 0, 0, []int{0, 1})
	askOfLinks(t, someLinks())
}

// TestApartOfAllSmall asks all choices of three links among four nodes, beside others that stay.
func TestApartOfAllSmall(t *testing.T) {
	all := linksOf("01 02 03 10 12 13 20 21 23 30 31 32")
	for _, a := range all {
		for _, b := range all {
			for _, c := range all {
				checkEverySet(t, []impl.Link{a, b, c, {From: 0, To: 1}, {From: 2, To: 3}}, 0, 3)
				checkEverySet(t, []impl.Link{{From: 0, To: 2}, a, b, {From: 0, To: 1}, {From: 1, To: 3}, c}, 0, 3)
			}
		}
	}
}

func TestAsManyApartAsMustBeCut(t *testing.T) {
	r := rand.New(rand.NewSource(9))
	for range 300 {
		nodes := 2 + r.Intn(5)
		from := r.Intn(nodes)
		checkEverySet(t, anyLinks(r, r.Intn(11), nodes), from, (from+1+r.Intn(nodes-1))%nodes)
	}
	for _, l := range [][]impl.Link{linksGoingRound(), linksGoingRoundTwice(), linksRoundBesides(), someLinks()} {
		checkEverySet(t, l, 0, 3)
	}
	for range 1500 {
		nodes := 2 + r.Intn(7)
		from := r.Intn(nodes)
		checkApart(t, anyLinks(r, r.Intn(21), nodes), from, (from+1+r.Intn(nodes-1))%nodes)
	}
}

// TestManyGoRound lays links that go round in other orders, with other nodes and with more links between.
func TestManyGoRound(t *testing.T) {
	r := rand.New(rand.NewSource(99))
	round, twice := 0, 0
	for range 2000 {
		l := [][]impl.Link{linksGoingRound(), linksGoingRoundTwice(), linksRoundBesides()}[r.Intn(3)]
		for range r.Intn(3) {
			l = slices.Insert(l, r.Intn(len(l)+1), anyLinks(r, 1, 8)...)
		}
		for range r.Intn(4) {
			i, j := r.Intn(len(l)), r.Intn(len(l))
			l[i], l[j] = l[j], l[i]
		}
		other := r.Perm(8)
		for k, x := range l {
			l[k] = impl.Link{From: other[x.From], To: other[x.To]}
		}
		switch _, _, again := checkApart(t, l, other[0], other[3]); {
		case again > 1:
			twice++
		case again > 0:
			round++
		}
	}
	if round < 100 || twice < 100 {
		t.Errorf("%d go round once, %d twice", round, twice)
	}
}

func TestLinksMixed(t *testing.T) {
	r := rand.New(rand.NewSource(909))
	some := []int{math.MinInt, -1, 0, 0, 1, 2, 3, 3, 4, 5, 6, 7, 7, 8, 20, 21, math.MaxInt}
	one := func() int { return some[r.Intn(len(some))] }
	for range 3000 {
		l := anyLinks(r, r.Intn(23), 2+r.Intn(7))
		for range r.Intn(3) {
			if len(l) > 0 {
				l[r.Intn(len(l))] = impl.Link{From: one(), To: one()}
			}
		}
		checkApart(t, l, one(), one())
		checkWay(t, l, one(), one(), []int{one(), one()}[:r.Intn(3)])
		checkReached(t, l, one(), []int{one(), one()}[:r.Intn(3)])
	}
}

func TestLinksBehindTheirLength(t *testing.T) {
	for _, behind := range []impl.Link{{From: 0, To: 3}, {From: 9, To: -5}} {
		all := append(someLinks(), behind, behind)
		was := slices.Clone(all)
		way, some := []int{0, 2, 3, 99}, []int{0, 1, 0, 99}
		wantApart(t, all[:5], 0, 3, []int{0, 2}, []int{1, 3})
		wantFewest(t, all[:5], 0, 3, 0, 1)
		wantApart(t, all[:0], 0, 3)
		wantWay(t, all[:5], 0, 3, true, way[:2]...)
		wantNoIsWay(t, "behind the links' length", all[:5], 0, 3, []int{5})
		wantReached(t, all[:5], 0, some[:1], 0, 2, 3)
		wantReached(t, all[:5], 0, some[:2], 0)
		wantNoReached(t, "behind the links' length", all[:5], 0, []int{0, 5})
		wantListsApart(t, [][]int{way[:2], some[1:2]}, true)
		if !slices.Equal(all, was) || !slices.Equal(way, []int{0, 2, 3, 99}) || !slices.Equal(some, []int{0, 1, 0, 99}) {
			t.Errorf("written behind: %v, %v, %v", all, way, some)
		}
	}
}

func TestApartNewMemory(t *testing.T) {
	l, some := append(make([]impl.Link, 0, 40), linksGoingRoundTwice()...), append(make([]int, 0, 40), 1)
	spoil := func(answer []int) {
		answer = answer[:cap(answer)]
		for i := range answer {
			answer[i] = -7
		}
	}
	want := [][]int{{1, 4, 3}, {5, 10, 9}, {8, 11, 7}}
	for range 2 { // what was spoilt in the first round isn't there in the second
		ways, _ := impl.WaysApart(l, 0, 3)
		for i, way := range want {
			if !sameWays(ways[i:], want[i:]) {
				t.Errorf("%v, not %v", ways[i:], want[i:])
			}
			_ = append(ways[i], way...)
			spoil(ways[i])
		}
		for _, way := range ways {
			if !slices.Equal(way, []int{-7, -7, -7}) {
				t.Errorf("%v", ways)
			}
		}
		cut, _ := impl.FewestToCut(l, 0, 3)
		nodes, _ := impl.ReachedBy(l, 0, some)
		if !slices.Equal(cut, []int{1, 5, 8}) || !slices.Equal(nodes, []int{0, 1, 2, 3, 4, 5}) {
			t.Errorf("%v, %v", cut, nodes)
		}
		spoil(cut)
		spoil(nodes)
	}
	if !slices.Equal(l, linksGoingRoundTwice()) || !slices.Equal(l[:40][12:], make([]impl.Link, 28)) {
		t.Errorf("%v", l[:40])
	}
	if !slices.Equal(some, []int{1}) || !slices.Equal(some[:40][1:], make([]int, 39)) {
		t.Errorf("%v", some[:40])
	}
}
