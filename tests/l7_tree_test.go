package tests

import (
	"math"
	"math/rand"
	"slices"
	"testing"

	"loop.example/g00315/impl"
)

// edge is one in the order in which it is told: its ends, its cost.
func edge(a int, b int, cost int) impl.Edge {
	return impl.Edge{A: a, B: b, Cost: cost}
}

// plainEdges asks for the rules of edges one after another.
func plainEdges(l []impl.Edge) bool {
	for _, e := range l {
		if e.A < 0 || e.A > 7 || e.B < 0 || e.B > 7 || e.A == e.B || e.Cost < 0 || e.Cost > 1000 {
			return false
		}
	}
	return len(l) <= 24
}

// plainLinks goes on from each node as long as it can: who is linked with whom by some.
func plainLinks(l []impl.Edge, some []int) [8][8]bool {
	var with [8][8]bool
	for from := range with {
		with[from][from] = true
		for range with {
			for _, k := range some {
				a, b := l[k].A, l[k].B
				if with[from][a] || with[from][b] {
					with[from][a], with[from][b] = true, true
				}
			}
		}
	}
	return with
}

// plainTree needs no order of taking: an edge is in the tree if those that are cheaper, or as cheap and ahead of it, do not link its ends.
func plainTree(l []impl.Edge) ([]int, int) {
	var tree []int
	cost := 0
	for k, e := range l {
		var ahead []int
		for j, f := range l {
			if f.Cost < e.Cost || f.Cost == e.Cost && j < k {
				ahead = append(ahead, j)
			}
		}
		if !plainLinks(l, ahead)[e.A][e.B] {
			tree, cost = append(tree, k), cost+e.Cost
		}
	}
	return tree, cost
}

// plainGrowth follows the document's words for Prim; the edges in the order in which they are taken.
func plainGrowth(l []impl.Edge) []int {
	var taken []int
	var reached [8]bool
	for start := range reached {
		if reached[start] {
			continue
		}
		reached[start] = true
		part := [8]bool{}
		part[start] = true
		for {
			best := -1
			for k, e := range l {
				leads := part[e.A] && !reached[e.B] || part[e.B] && !reached[e.A]
				if leads && (best < 0 || e.Cost < l[best].Cost) {
					best = k
				}
			}
			if best < 0 {
				break
			}
			taken = append(taken, best)
			for _, end := range []int{l[best].A, l[best].B} {
				part[end], reached[end] = true, true
			}
		}
	}
	return taken
}

// allOf are the numbers of all edges.
func allOf(l []impl.Edge) []int {
	all := make([]int, len(l))
	for k := range all {
		all[k] = k
	}
	return all
}

// checkTree asks GoodEdges, Kruskal and Prim, of good edges and of others.
func checkTree(t *testing.T, l []impl.Edge) []int {
	t.Helper()
	was := slices.Clone(l)
	can := plainEdges(l)
	var want, grown []int
	cost := 0
	if can {
		want, cost = plainTree(l)
		grown = plainGrowth(l)
		slices.Sort(grown)
	}
	if ok := impl.GoodEdges(l); ok != can {
		t.Fatalf("GoodEdges(%v) = %v", l, ok)
	}
	tree, told, ok := impl.Kruskal(l)
	if !slices.Equal(tree, want) || told != cost || ok != can {
		t.Fatalf("Kruskal(%v) = %v, %d, %v, not %v, %d, %v", l, tree, told, ok, want, cost, can)
	}
	other, told, ok := impl.Prim(l)
	if !slices.Equal(other, grown) || told != cost || ok != can {
		t.Fatalf("Prim(%v) = %v, %d, %v, not %v, %d, %v", l, other, told, ok, grown, cost, can)
	}
	if !slices.Equal(l, was) {
		t.Fatalf("written into: %v, once %v", l, was)
	}
	return tree
}

// checkStandsFor asks that no edge that was left out is cheaper than one in whose place it could stand, nor as cheap and ahead of it.
func checkStandsFor(t *testing.T, l []impl.Edge, tree []int) {
	t.Helper()
	for k, e := range l {
		if slices.Contains(tree, k) {
			continue
		}
		row, ok := impl.PathIn(l, tree, e.A, e.B)
		if !ok {
			t.Fatalf("%v of %v do not link the ends of %v", tree, l, e)
		}
		for _, j := range row {
			if l[j].Cost > e.Cost || l[j].Cost == e.Cost && j > k {
				t.Fatalf("%v of %v: %v could stand for %v", tree, l, e, l[j])
			}
		}
	}
}

// checkLeast asks every choice of edges that links what all of them link.
func checkLeast(t *testing.T, l []impl.Edge) {
	t.Helper()
	_, told, _ := impl.Kruskal(l)
	_, other, _ := impl.Prim(l)
	all, least := plainLinks(l, allOf(l)), math.MaxInt
	for choice := range 1 << len(l) {
		var some []int
		cost := 0
		for k := range l {
			if choice>>k&1 == 1 {
				some, cost = append(some, k), cost+l[k].Cost
			}
		}
		if cost < least && plainLinks(l, some) == all {
			least = cost
		}
	}
	if told != least || other != least {
		t.Fatalf("%v can be linked for %d, not %d (Kruskal), %d (Prim)", l, least, told, other)
	}
}

func wantTree(t *testing.T, l []impl.Edge, cost int, want ...int) {
	t.Helper()
	checkTree(t, l)
	if tree, told, ok := impl.Kruskal(l); !slices.Equal(tree, want) || told != cost || !ok {
		t.Errorf("Kruskal(%v) = %v, %d, %v, not %v, %d", l, tree, told, ok, want, cost)
	}
	if tree, told, ok := impl.Prim(l); !slices.Equal(tree, want) || told != cost || !ok {
		t.Errorf("Prim(%v) = %v, %d, %v, not %v, %d", l, tree, told, ok, want, cost)
	}
	checkStandsFor(t, l, want)
	askOfEdges(t, l)
}

// someRounds has three parts, one of which is a node alone, with rounds in two of them.
func someRounds() []impl.Edge {
	return []impl.Edge{
		edge(0, 1, 4), edge(1, 2, 8), edge(2, 3, 7), edge(0, 3, 8), edge(1, 3, 11),
		edge(6, 4, 2), edge(4, 5, 6), edge(5, 6, 1), edge(6, 5, 3),
	}
}

func someEdges(r *rand.Rand, many int, nodes int, cost int) []impl.Edge {
	l := make([]impl.Edge, many)
	for i := range l {
		a := r.Intn(nodes)
		l[i] = edge(a, (a+1+r.Intn(nodes-1))%nodes, r.Intn(cost+1))
	}
	return l
}

func TestTreesKnown(t *testing.T) {
	wantTree(t, []impl.Edge{edge(0, 1, 4), edge(1, 2, 2), edge(0, 2, 3), edge(3, 4, 9)}, 14, 1, 2, 3)
	wantTree(t, someRounds(), 22, 0, 1, 2, 5, 7)
	wantTree(t, []impl.Edge{edge(7, 0, 1)}, 1, 0)
	wantTree(t, []impl.Edge{edge(0, 1, 5), edge(1, 2, 5), edge(2, 3, 5), edge(3, 4, 5)}, 20, 0, 1, 2, 3)
	wantTree(t, []impl.Edge{edge(5, 0, 1), edge(5, 1, 2), edge(5, 7, 3), edge(0, 1, 9), edge(1, 7, 9)}, 6, 0, 1, 2)
	// A dear first edge out of the first node is needed, and what lies behind it is cheap.
	wantTree(t, []impl.Edge{edge(0, 1, 100), edge(1, 2, 1), edge(2, 3, 1), edge(3, 1, 1), edge(0, 3, 101)}, 102, 0, 1, 2)
	// The straight edge from 0 to 1 is dearer than each of the two on the way round.
	wantTree(t, []impl.Edge{edge(0, 2, 1), edge(0, 1, 3), edge(2, 1, 2)}, 3, 0, 2)
}

func TestTreesInSeveralParts(t *testing.T) {
	l := []impl.Edge{edge(6, 7, 3), edge(4, 5, 2), edge(2, 3, 1), edge(0, 1, 0)}
	wantTree(t, l, 6, 0, 1, 2, 3)
	l = append(l, edge(7, 6, 2), edge(1, 0, 0), edge(3, 2, 0))
	wantTree(t, l, 4, 1, 3, 4, 6)
	l = append(l, edge(1, 7, 50), edge(5, 2, 40))
	wantTree(t, l, 94, 1, 3, 4, 6, 7, 8)
	// A part that is begun at its least node though its cheapest edge lies elsewhere.
	wantTree(t, []impl.Edge{edge(1, 5, 9), edge(5, 7, 1), edge(7, 1, 8), edge(0, 6, 4)}, 13, 1, 2, 3)
}

func TestTreeOfNoEdges(t *testing.T) {
	for _, l := range [][]impl.Edge{nil, {}} {
		wantTree(t, l, 0)
	}
}

func TestTreeOfMaxEdges(t *testing.T) {
	var l []impl.Edge
	for a := range 8 {
		for b := a + 1; b < 8 && len(l) < impl.MaxEdges; b++ {
			l = append(l, edge(a, b, 1000-10*a-b))
		}
	}
	if len(l) != 24 {
		t.Fatal(len(l))
	}
	checkStandsFor(t, l, checkTree(t, l))
	askOfEdges(t, l)
	wantTree(t, slices.Repeat([]impl.Edge{edge(0, 7, 1000)}, 24), 1000, 0)
	row := append(slices.Repeat([]impl.Edge{edge(0, 1, 1000)}, 17),
		edge(0, 1, 1000), edge(1, 2, 1000), edge(2, 3, 1000), edge(3, 4, 1000), edge(4, 5, 1000), edge(5, 6, 1000), edge(6, 7, 1000))
	wantTree(t, row, 7000, 0, 18, 19, 20, 21, 22, 23)
}

func TestCostsAtTheirBounds(t *testing.T) {
	wantTree(t, []impl.Edge{edge(0, 1, 0)}, 0, 0)
	wantTree(t, []impl.Edge{edge(0, 1, 1000)}, 1000, 0)
	wantTree(t, []impl.Edge{edge(0, 1, 1000), edge(1, 2, 0), edge(0, 2, 999)}, 999, 1, 2)
	wantTree(t, []impl.Edge{edge(0, 1, 0), edge(1, 2, 0), edge(0, 2, 0)}, 0, 0, 1)
	wantTree(t, []impl.Edge{edge(0, 1, 1000), edge(1, 2, 1000), edge(0, 2, 1000)}, 2000, 0, 1)
}

func TestOfTheSameCostTheFirst(t *testing.T) {
	wantTree(t, []impl.Edge{edge(0, 1, 3), edge(0, 1, 3)}, 3, 0)
	wantTree(t, []impl.Edge{edge(0, 1, 3), edge(1, 0, 3)}, 3, 0)
	wantTree(t, []impl.Edge{edge(0, 1, 4), edge(1, 0, 3), edge(0, 1, 3)}, 3, 1)
	wantTree(t, []impl.Edge{edge(1, 2, 5), edge(0, 2, 5), edge(0, 1, 5)}, 10, 0, 1)
	wantTree(t, []impl.Edge{edge(0, 1, 5), edge(0, 2, 5), edge(1, 2, 5)}, 10, 0, 1)
	wantTree(t, []impl.Edge{edge(0, 1, 5), edge(1, 2, 5), edge(2, 3, 5), edge(3, 0, 5)}, 15, 0, 1, 2)
	wantTree(t, []impl.Edge{edge(3, 0, 5), edge(2, 3, 5), edge(1, 2, 5), edge(0, 1, 5)}, 15, 0, 1, 2)
	// All edges between some nodes cost the same: each is taken whose ends no earlier one has linked.
	for nodes := 2; nodes <= 7; nodes++ {
		var l []impl.Edge
		for a := range nodes {
			for b := range a {
				l = append(l, edge(a, b, 7))
			}
		}
		var want []int
		for a := 1; a < nodes; a++ {
			want = append(want, a*(a-1)/2)
		}
		wantTree(t, l[:min(len(l), 24)], 7*(nodes-1), want...)
	}
}

// wrongEdges break each one rule of an edge.
func wrongEdges() map[string]impl.Edge {
	return map[string]impl.Edge{
		"A -1":              edge(-1, 1, 5),
		"A MaxNodes":        edge(8, 1, 5),
		"A least of all":    edge(math.MinInt, 1, 5),
		"A most of all":     edge(math.MaxInt, 1, 5),
		"B -1":              edge(0, -1, 5),
		"B MaxNodes":        edge(0, 8, 5),
		"B least of all":    edge(0, math.MinInt, 5),
		"B most of all":     edge(0, math.MaxInt, 5),
		"to itself":         edge(0, 0, 5),
		"to itself, last":   edge(7, 7, 5),
		"Cost -1":           edge(0, 1, -1),
		"Cost 1001":         edge(0, 1, 1001),
		"Cost least of all": edge(0, 1, math.MinInt),
		"Cost most of all":  edge(0, 1, math.MaxInt),
		"nothing":           {},
	}
}

// wantBadEdges asks all functions at arguments that would do with good edges.
func wantBadEdges(t *testing.T, what string, l []impl.Edge) {
	t.Helper()
	if plainEdges(l) || impl.GoodEdges(l) {
		t.Errorf("%s: %v are good", what, l)
	}
	if tree, cost, ok := impl.Kruskal(l); len(tree) != 0 || cost != 0 || ok {
		t.Errorf("%s: Kruskal = %v, %d, %v", what, tree, cost, ok)
	}
	if tree, cost, ok := impl.Prim(l); len(tree) != 0 || cost != 0 || ok {
		t.Errorf("%s: Prim = %v, %d, %v", what, tree, cost, ok)
	}
	wantNotSome(t, what, l, nil)
	wantNotSome(t, what, l, []int{0})
	wantNoCutOf(t, what, l, nil)
	wantNoCutOf(t, what, l, []int{0})
	askOfEdges(t, l)
}

func TestBadEdges(t *testing.T) {
	for what, e := range wrongEdges() {
		wantBadEdges(t, what, []impl.Edge{e})
		wantBadEdges(t, what+", the first", append([]impl.Edge{e}, someRounds()...))
		wantBadEdges(t, what+", the last", append(someRounds(), e))
		wantBadEdges(t, what+", the last of 24", append(slices.Repeat([]impl.Edge{edge(0, 1, 0)}, 23), e))
	}
	l := slices.Repeat([]impl.Edge{edge(0, 1, 1)}, 25)
	wantBadEdges(t, "one more than MaxEdges", l)
	wantBadEdges(t, "many more than MaxEdges", slices.Repeat(l, 40))
}

func TestTreesOfAllSmall(t *testing.T) {
	var all []impl.Edge
	for _, cost := range []int{0, 1, 2} {
		all = append(all, edge(0, 1, cost), edge(1, 2, cost), edge(2, 0, cost))
	}
	for _, a := range all {
		for _, b := range all {
			for _, c := range all {
				for _, d := range all {
					l := []impl.Edge{a, b, c, d}
					checkStandsFor(t, l, checkTree(t, l))
					checkLeast(t, l)
				}
			}
		}
	}
}

func TestBothWaysCostTheSame(t *testing.T) {
	r := rand.New(rand.NewSource(707))
	for range 4000 {
		l := someEdges(r, r.Intn(25), 2+r.Intn(7), []int{0, 1, 3, 20, 1000}[r.Intn(5)])
		checkStandsFor(t, l, checkTree(t, l))
	}
	for range 600 {
		l := someEdges(r, r.Intn(9), 2+r.Intn(7), []int{0, 2, 10, 1000}[r.Intn(4)])
		checkTree(t, l)
		checkLeast(t, l)
	}
}

func TestTreesMixed(t *testing.T) {
	r := rand.New(rand.NewSource(77))
	some := []int{math.MinInt, -1, 0, 0, 1, 2, 3, 3, 4, 5, 6, 7, 7, 8, 1000, 1001, math.MaxInt}
	for range 4000 {
		l := someEdges(r, r.Intn(27), 2+r.Intn(7), 5)
		for range r.Intn(3) {
			if len(l) > 0 {
				l[r.Intn(len(l))] = edge(some[r.Intn(len(some))], some[r.Intn(len(some))], some[r.Intn(len(some))])
			}
		}
		checkTree(t, l)
	}
}

func TestTreesBehindTheirLength(t *testing.T) {
	for _, behind := range []impl.Edge{edge(3, 4, 0), edge(9, 9, -5)} {
		all := append(someRounds(), behind, behind)
		was := slices.Clone(all)
		wantTree(t, all[:9], 22, 0, 1, 2, 5, 7)
		wantTree(t, all[:0], 0)
		wantNotSome(t, "behind the edges' length", all[:9], []int{9})
		some, side := []int{0, 1, 2, 0, -3}, []int{0, 1, 0, 99}
		wantParts(t, all[:9], some[:3], 0, 0, 0, 0, 4, 5, 6, 7)
		wantPath(t, all[:9], some[:3], 0, 3, 0, 1, 2)
		wantCutOf(t, all[:9], side[:2], 1, 3, 4)
		if !slices.Equal(all, was) || !slices.Equal(some, []int{0, 1, 2, 0, -3}) || !slices.Equal(side, []int{0, 1, 0, 99}) {
			t.Errorf("written behind: %v, %v, %v", all, some, side)
		}
	}
}

func TestTreesNewMemory(t *testing.T) {
	l, some, side := someRounds(), []int{0, 1, 2, 5, 7}, []int{0, 1}
	edges := slices.Clone(l)
	spoil := func(answer []int) {
		answer = answer[:cap(answer)]
		for i := range answer {
			answer[i] = -7
		}
	}
	for range 2 { // what was spoilt in the first round isn't there in the second
		tree, _, _ := impl.Kruskal(l)
		other, _, _ := impl.Prim(l)
		parts, _ := impl.PartsOf(l, some)
		cut, _ := impl.CutOf(l, side)
		row, _ := impl.PathIn(l, some, 0, 3)
		for _, x := range []struct{ got, want []int }{
			{tree, []int{0, 1, 2, 5, 7}}, {other, []int{0, 1, 2, 5, 7}}, {parts, []int{0, 0, 0, 0, 4, 4, 4, 7}},
			{cut, []int{1, 3, 4}}, {row, []int{0, 1, 2}},
		} {
			if !slices.Equal(x.got, x.want) {
				t.Errorf("%v, not %v", x.got, x.want)
			}
			spoil(x.got)
		}
	}
	if !slices.Equal(l, edges) || !slices.Equal(some, []int{0, 1, 2, 5, 7}) || !slices.Equal(side, []int{0, 1}) {
		t.Errorf("%v, %v, %v", l, some, side)
	}
}
