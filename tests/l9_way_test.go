package tests

import (
	"math"
	"math/rand"
	"slices"
	"testing"

	"loop.example/g00315/impl"
)

// plainReached goes on from a node as long as it can, by links that are not left out.
func plainReached(l []impl.Link, from int, without []int) []int {
	var been [8]bool
	been[from] = true
	for range been {
		for k, x := range l {
			if been[x.From] && !slices.Contains(without, k) {
				been[x.To] = true
			}
		}
	}
	var nodes []int
	for node, is := range been {
		if is {
			nodes = append(nodes, node)
		}
	}
	return nodes
}

// plainWay asks for a way's rules one after another: where it begins, where it goes on, where it ends, and no node twice.
func plainWay(l []impl.Link, from int, to int, way []int) bool {
	if len(way) == 0 || l[way[0]].From != from || l[way[len(way)-1]].To != to {
		return false
	}
	for i := 1; i < len(way); i++ {
		if l[way[i]].From != l[way[i-1]].To {
			return false
		}
	}
	nodes := []int{from}
	for _, k := range way {
		nodes = append(nodes, l[k].To)
	}
	return plainAllUnlike([][]int{nodes})
}

// plainAllUnlike holds each number of all lists against each other one.
func plainAllUnlike(lists [][]int) bool {
	for i, a := range lists {
		for j, n := range a {
			for k, b := range lists {
				for m, o := range b {
					if (i != k || j != m) && n == o {
						return false
					}
				}
			}
		}
	}
	return true
}

func allLinks(l []impl.Link) []int {
	var all []int
	for k := range l {
		all = append(all, k)
	}
	return all
}

// checkWay asks IsWay, as said or not.
func checkWay(t *testing.T, l []impl.Link, from int, to int, way []int) bool {
	t.Helper()
	links, row := slices.Clone(l), slices.Clone(way)
	can := plainCanGo(l, from, to)
	for _, k := range way {
		can = can && k >= 0 && k < len(l)
	}
	want := can && plainWay(l, from, to, way)
	is, ok := impl.IsWay(l, from, to, way)
	if is != want || ok != can {
		t.Fatalf("IsWay(%v, %d, %d, %v) = %v, %v, not %v, %v", l, from, to, way, is, ok, want, can)
	}
	if !slices.Equal(l, links) || !slices.Equal(way, row) {
		t.Fatalf("written into: %v, %v, once %v, %v", l, way, links, row)
	}
	return is
}

// checkReached asks ReachedBy, as said or not.
func checkReached(t *testing.T, l []impl.Link, from int, without []int) []int {
	t.Helper()
	links, some := slices.Clone(l), slices.Clone(without)
	can := plainGoodLinks(l) && plainNode(from) && plainRising(without, len(l))
	var want []int
	if can {
		want = plainReached(l, from, without)
	}
	nodes, ok := impl.ReachedBy(l, from, without)
	if !slices.Equal(nodes, want) || ok != can {
		t.Fatalf("ReachedBy(%v, %d, %v) = %v, %v, not %v, %v", l, from, without, nodes, ok, want, can)
	}
	if !slices.Equal(l, links) || !slices.Equal(without, some) {
		t.Fatalf("written into: %v, %v, once %v, %v", l, without, links, some)
	}
	return nodes
}

// checkListsApart asks AreApart, as said or not.
func checkListsApart(t *testing.T, lists [][]int) bool {
	t.Helper()
	can := len(lists) <= 20
	var was [][]int
	for _, list := range lists {
		can = can && len(list) <= 20
		was = append(was, slices.Clone(list))
	}
	want := can && plainAllUnlike(lists)
	apart, ok := impl.AreApart(lists)
	if apart != want || ok != can {
		t.Fatalf("AreApart(%v) = %v, %v, not %v, %v", lists, apart, ok, want, can)
	}
	if !sameWays(lists, was) {
		t.Fatalf("written into: %v, once %v", lists, was)
	}
	return apart
}

// wantWay asks for a row of which all are of the links, whether it is a way.
func wantWay(t *testing.T, l []impl.Link, from int, to int, want bool, way ...int) {
	t.Helper()
	checkWay(t, l, from, to, way)
	if is, ok := impl.IsWay(l, from, to, way); is != want || !ok {
		t.Errorf("IsWay(%v, %d, %d, %v) = %v, %v, not %v", l, from, to, way, is, ok, want)
	}
}

// wantNoIsWay asks for links, nodes or numbers of which nothing is told.
func wantNoIsWay(t *testing.T, what string, l []impl.Link, from int, to int, way []int) {
	t.Helper()
	checkWay(t, l, from, to, way)
	if is, ok := impl.IsWay(l, from, to, way); is || ok {
		t.Errorf("%s: IsWay(%v, %d, %d, %v) = %v, %v", what, l, from, to, way, is, ok)
	}
}

func wantReached(t *testing.T, l []impl.Link, from int, without []int, want ...int) {
	t.Helper()
	if nodes := checkReached(t, l, from, without); !slices.Equal(nodes, want) {
		t.Errorf("ReachedBy(%v, %d, %v) = %v, not %v", l, from, without, nodes, want)
	}
	if _, ok := impl.ReachedBy(l, from, without); !ok {
		t.Errorf("ReachedBy(%v, %d, %v) tells false", l, from, without)
	}
}

func wantNoReached(t *testing.T, what string, l []impl.Link, from int, without []int) {
	t.Helper()
	checkReached(t, l, from, without)
	if nodes, ok := impl.ReachedBy(l, from, without); len(nodes) != 0 || ok {
		t.Errorf("%s: ReachedBy(%v, %d, %v) = %v, %v", what, l, from, without, nodes, ok)
	}
}

func wantListsApart(t *testing.T, lists [][]int, want bool) {
	t.Helper()
	checkListsApart(t, lists)
	if apart, ok := impl.AreApart(lists); apart != want || !ok {
		t.Errorf("AreApart(%v) = %v, %v, not %v", lists, apart, ok, want)
	}
}

func wantNoLists(t *testing.T, what string, lists [][]int) {
	t.Helper()
	checkListsApart(t, lists)
	if apart, ok := impl.AreApart(lists); apart || ok {
		t.Errorf("%s: AreApart(%v) = %v, %v", what, lists, apart, ok)
	}
}

func TestWaysKnown(t *testing.T) {
	l := someLinks()
	wantWay(t, l, 0, 3, true, 0, 2)
	wantWay(t, l, 0, 3, true, 1, 3)
	wantWay(t, l, 0, 3, true, 0, 4, 3)
	wantWay(t, l, 0, 1, true, 0)
	wantWay(t, l, 1, 3, true, 2)
	wantWay(t, l, 1, 3, true, 4, 3)
	wantWay(t, linksOf("01 01"), 0, 1, true, 0)
	wantWay(t, linksOf("01 01"), 0, 1, true, 1)
	wantWay(t, linksOf("01 10"), 1, 0, true, 1)
	// As long as a way can be: all nodes are on it.
	long := linksOf("01 12 23 34 45 56 67 70")
	wantWay(t, long, 0, 7, true, 0, 1, 2, 3, 4, 5, 6)
	wantWay(t, long, 3, 2, true, 3, 4, 5, 6, 7, 0, 1)
}

func TestWaysThatBreakOff(t *testing.T) {
	l := append(someLinks(), linksOf("30 45 31")...)
	wantWay(t, l, 0, 3, false)
	wantWay(t, nil, 0, 3, false)
	wantWay(t, l, 0, 3, false, 0)
	wantWay(t, l, 0, 3, false, 1)
	wantWay(t, l, 0, 3, false, 2)
	wantWay(t, l, 0, 3, false, 2, 0)
	wantWay(t, l, 0, 3, false, 0, 3)
	wantWay(t, l, 0, 3, false, 1, 2)
	wantWay(t, l, 0, 3, false, 0, 1, 3)
	wantWay(t, l, 0, 3, false, 6, 0, 2)
	wantWay(t, l, 0, 3, false, 0, 6, 2)
	wantWay(t, l, 0, 2, false, 0, 2)
	wantWay(t, l, 1, 3, false, 0, 2)
	wantWay(t, l, 3, 0, false, 0, 2)
	wantWay(t, l, 4, 5, false, 0)
	// The wrong way along a link, at first, later and by itself.
	wantWay(t, linksOf("10 12"), 0, 2, false, 0, 1)
	wantWay(t, linksOf("01 21"), 0, 2, false, 0, 1)
	wantWay(t, linksOf("10"), 0, 1, false, 0)
}

func TestWaysWithANodeTwice(t *testing.T) {
	l := linksOf("01 12 21 13 30 02 20 31 13")
	wantWay(t, l, 0, 3, true, 0, 3)
	wantWay(t, l, 0, 3, false, 0, 1, 2, 3)
	wantWay(t, l, 0, 3, false, 0, 1, 6, 0, 3)
	wantWay(t, l, 0, 3, false, 5, 6, 0, 3)
	wantWay(t, l, 0, 3, false, 0, 3, 7, 3)
	wantWay(t, l, 0, 3, false, 0, 3, 7, 8)
	wantWay(t, l, 0, 3, false, 0, 3, 4, 0, 3)
	wantWay(t, l, 0, 3, false, 0, 0, 3)
	wantWay(t, l, 0, 3, false, 0, 3, 3)
	// Where it was already at to it does not go on, nor does it come back to from.
	wantWay(t, l, 0, 1, false, 0, 1, 2)
	wantWay(t, l, 1, 0, true, 3, 4)
	wantWay(t, l, 1, 0, false, 1, 2, 3, 4)
	wantWay(t, l, 0, 3, false, slices.Repeat([]int{0, 1, 6}, 1000)...)
	wantWay(t, l, 0, 3, false, append(slices.Repeat([]int{0, 1, 6}, 1000), 0, 3)...)
}

func TestWaysThatNameNoLink(t *testing.T) {
	l := someLinks()
	for _, bad := range []int{math.MinInt, -5, -1, 5, 6, 20, math.MaxInt} {
		for _, way := range [][]int{{bad}, {bad, 0, 2}, {0, bad, 2}, {0, 2, bad}, {2, 0, bad}, append(make([]int, 5000), bad)} {
			wantNoIsWay(t, "no link", l, 0, 3, way)
		}
	}
	for _, l := range [][]impl.Link{nil, {}} {
		wantNoIsWay(t, "no links", l, 0, 3, []int{0})
		wantNoIsWay(t, "no links", l, 0, 3, []int{-1})
	}
}

// TestEveryRow asks all rows of up to four of these links, and of one that is none.
func TestEveryRow(t *testing.T) {
	for _, l := range [][]impl.Link{someLinks(), linksOf("01 10 13 31 03"), linksOf("01 12 20 23 31")} {
		for code := range 7 * 7 * 7 * 7 {
			var row []int
			for ; code > 0; code /= 7 {
				row = append(row, code%7-1)
			}
			checkWay(t, l, 0, 3, row)
			checkWay(t, l, 1, 2, row)
			checkWay(t, l, 3, 0, row)
		}
	}
}

func TestReachedKnown(t *testing.T) {
	l := append(someLinks(), linksOf("30 45")...)
	wantReached(t, l, 0, nil, 0, 1, 2, 3)
	wantReached(t, l, 0, []int{}, 0, 1, 2, 3)
	wantReached(t, l, 2, nil, 0, 1, 2, 3)
	wantReached(t, l, 4, nil, 4, 5)
	wantReached(t, l, 5, nil, 5)
	wantReached(t, l, 7, nil, 7)
	wantReached(t, l, 0, []int{0}, 0, 2, 3)
	wantReached(t, l, 0, []int{1}, 0, 1, 2, 3)
	wantReached(t, l, 0, []int{0, 1}, 0)
	wantReached(t, l, 0, []int{0, 3}, 0, 2)
	wantReached(t, l, 0, []int{1, 4}, 0, 1, 3)
	wantReached(t, l, 0, []int{2, 3}, 0, 1, 2)
	wantReached(t, l, 4, []int{0, 1, 2, 3, 4, 5}, 4, 5)
	for node := range 8 {
		wantReached(t, l, node, []int{0, 1, 2, 3, 4, 5, 6}, node)
	}
	// Of two between the same nodes one is enough, and one each way is not the other.
	wantReached(t, linksOf("01 01"), 0, []int{0}, 0, 1)
	wantReached(t, linksOf("01 01"), 0, []int{1}, 0, 1)
	wantReached(t, linksOf("01 01"), 0, []int{0, 1}, 0)
	wantReached(t, linksOf("01 10"), 0, []int{0}, 0)
	wantReached(t, linksOf("01 10"), 0, []int{1}, 0, 1)
	// Links that stand against the order in which they are gone.
	wantReached(t, linksOf("67 56 45 34 23 12 01"), 0, nil, 0, 1, 2, 3, 4, 5, 6, 7)
	wantReached(t, linksOf("67 56 45 34 23 12 01"), 0, []int{3}, 0, 1, 2, 3)
	wantReached(t, linksOf("07 76 65 54 43 32 21"), 0, nil, 0, 1, 2, 3, 4, 5, 6, 7)
}

func TestWithoutWrong(t *testing.T) {
	for what, some := range map[string][]int{
		"falling": {1, 0}, "falling at last": {0, 1, 3, 2}, "falling at first": {4, 0, 1, 2}, "twice": {2, 2},
		"twice at last": {0, 1, 2, 2}, "twice, apart": {0, 1, 0}, "below 0": {-1}, "below 0 at first": {-1, 0, 1},
		"behind the last": {5}, "behind the last, at last": {0, 1, 5}, "far behind": {0, math.MaxInt}, "far below": {math.MinInt, 0},
		"all, and one": {0, 1, 2, 3, 4, 5}, "all twice": {0, 1, 2, 3, 4, 0, 1, 2, 3, 4}, "many": make([]int, 5000),
	} {
		wantNoReached(t, what, someLinks(), 0, some)
		wantNoReached(t, what, nil, 0, some)
	}
	wantNoReached(t, "no links", nil, 0, []int{0})
	wantNoReached(t, "no links", []impl.Link{}, 0, []int{-1})
}

func TestReachedWithoutEverySet(t *testing.T) {
	for _, l := range [][]impl.Link{someLinks(), linksOf("01 12 20 23 31 34 43"), linksGoingRound()} {
		for set := range 1 << len(l) {
			for from := range 8 {
				checkReached(t, l, from, chosen(set))
			}
		}
	}
}

func TestListsApartKnown(t *testing.T) {
	wantListsApart(t, [][]int{{1, 2}, {3}}, true)
	wantListsApart(t, [][]int{{1, 2}, {2}}, false)
	wantListsApart(t, [][]int{{2}, {1, 2}}, false)
	wantListsApart(t, [][]int{{1, 2, 1}}, false)
	wantListsApart(t, [][]int{{1, 1}}, false)
	wantListsApart(t, [][]int{{3, 2, 1}, {6, 4, 5}}, true)
	wantListsApart(t, [][]int{{1}, {2}, {3}, {1}}, false)
	wantListsApart(t, [][]int{{5, 9}, {7}, {8, 7}}, false)
	wantListsApart(t, [][]int{{0}}, true)
	wantListsApart(t, [][]int{{math.MinInt, -1}, {0, 1}, {math.MaxInt}}, true)
	wantListsApart(t, [][]int{{-1}, {0, -1}}, false)
	wantListsApart(t, [][]int{{math.MaxInt}, {math.MinInt}, {math.MaxInt}}, false)
}

func TestNoLists(t *testing.T) {
	wantListsApart(t, nil, true)
	wantListsApart(t, [][]int{}, true)
	wantListsApart(t, [][]int{nil}, true)
	wantListsApart(t, [][]int{{}, nil, {}}, true)
	wantListsApart(t, [][]int{{}, {1}, {}, {2}}, true)
	wantListsApart(t, [][]int{{1}, {}, {1}}, false)
	wantListsApart(t, make([][]int, 20), true)
}

// listsOf has so many lists of so many numbers, no two alike.
func listsOf(many int, long int) [][]int {
	lists := make([][]int, many)
	for i := range lists {
		for j := range long {
			lists[i] = append(lists[i], 1000-i*long-j)
		}
	}
	return lists
}

func TestListsAtTheirLimits(t *testing.T) {
	wantListsApart(t, listsOf(20, 20), true)
	wantListsApart(t, listsOf(20, 1), true)
	wantListsApart(t, listsOf(1, 20), true)
	for _, at := range [][2]int{{0, 0}, {0, 19}, {19, 0}, {19, 19}} {
		lists := listsOf(20, 20)
		lists[at[0]][at[1]] = lists[10][10]
		wantListsApart(t, lists, false)
	}
	wantNoLists(t, "21 lists", listsOf(21, 1))
	wantNoLists(t, "21 lists of 20", listsOf(21, 20))
	wantNoLists(t, "21 empty lists", make([][]int, 21))
	wantNoLists(t, "21 alike", slices.Repeat([][]int{{4}}, 21))
	wantNoLists(t, "many lists", make([][]int, 5000))
	wantNoLists(t, "21 numbers", listsOf(1, 21))
	wantNoLists(t, "21 alike in one", [][]int{make([]int, 21)})
	wantNoLists(t, "21 numbers at first", append(listsOf(1, 21), []int{1}, nil))
	wantNoLists(t, "21 numbers at last", append([][]int{{1}, {1}}, listsOf(1, 21)...))
	wantNoLists(t, "21 numbers in the last of 20", append(listsOf(19, 1), make([]int, 21)))
	wantNoLists(t, "many numbers", [][]int{make([]int, 5000)})
}

func TestListsMixed(t *testing.T) {
	r := rand.New(rand.NewSource(9009))
	apart := 0
	for range 3000 {
		lists := make([][]int, r.Intn(22))
		most := []int{2, 4, 22}[r.Intn(3)]
		for i := range lists {
			for range r.Intn(most) {
				lists[i] = append(lists[i], r.Intn(2000)-1000)
			}
		}
		if checkListsApart(t, lists) {
			apart++
		}
	}
	if apart < 500 || apart > 2500 {
		t.Errorf("%d of 3000 are apart", apart)
	}
}

func TestListsShareMemory(t *testing.T) {
	one := []int{1, 2, 3, 4}
	wantListsApart(t, [][]int{one[:2], one[2:]}, true)
	wantListsApart(t, [][]int{one[:3], one[2:]}, false)
	wantListsApart(t, [][]int{one[:0], one, one[:0]}, true)
	wantListsApart(t, [][]int{one, one}, false)
	lists := [][]int{{9, 3}, {7}, {9}}
	wantListsApart(t, lists[:2], true)
	if !slices.Equal(one, []int{1, 2, 3, 4}) || !sameWays(lists, [][]int{{9, 3}, {7}, {9}}) {
		t.Errorf("%v, %v", one, lists)
	}
}
