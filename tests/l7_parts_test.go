package tests

import (
	"math"
	"math/rand"
	"slices"
	"testing"

	"loop.example/g00315/impl"
)

// plainRising asks whether these are rising numbers below many.
func plainRising(l []int, many int) bool {
	for i, n := range l {
		if n < 0 || n >= many {
			return false
		}
		for _, ahead := range l[:i] {
			if ahead >= n {
				return false
			}
		}
	}
	return true
}

// without is some but for one edge.
func without(some []int, k int) []int {
	var others []int
	for _, j := range some {
		if j != k {
			others = append(others, j)
		}
	}
	return others
}

// plainForest takes away each edge: the others must not link its ends.
func plainForest(l []impl.Edge, some []int) bool {
	for _, k := range some {
		if plainLinks(l, without(some, k))[l[k].A][l[k].B] {
			return false
		}
	}
	return true
}

// plainPath gathers the edges of a forest without which a and b aren't linked, and goes from a on along them.
func plainPath(l []impl.Edge, some []int, a int, b int) ([]int, bool) {
	if !plainLinks(l, some)[a][b] {
		return nil, false
	}
	var needed, row []int
	for _, k := range some {
		if !plainLinks(l, without(some, k))[a][b] {
			needed = append(needed, k)
		}
	}
	for len(row) < len(needed) {
		for _, k := range needed {
			if !slices.Contains(row, k) && (l[k].A == a || l[k].B == a) {
				row, a = append(row, k), l[k].A+l[k].B-a
			}
		}
	}
	return row, true
}

// checkSome asks PartsOf, IsForest and PathIn, between all nodes, as said or not.
func checkSome(t *testing.T, l []impl.Edge, some []int) {
	t.Helper()
	edges, chosen := slices.Clone(l), slices.Clone(some)
	can := plainEdges(l) && plainRising(some, len(l))
	var least []int
	forest := false
	if can {
		forest = plainForest(l, some)
		for _, with := range plainLinks(l, some) {
			least = append(least, slices.Index(with[:], true))
		}
	}
	if got, ok := impl.PartsOf(l, some); !slices.Equal(got, least) || ok != can {
		t.Fatalf("PartsOf(%v, %v) = %v, %v, not %v, %v", l, some, got, ok, least, can)
	}
	if got, ok := impl.IsForest(l, some); got != forest || ok != can {
		t.Fatalf("IsForest(%v, %v) = %v, %v, not %v, %v", l, some, got, ok, forest, can)
	}
	for _, a := range edgeNodes() {
		for _, b := range edgeNodes() {
			var want []int
			linked := false
			if forest && plainNode(a) && plainNode(b) {
				want, linked = plainPath(l, some, a, b)
			}
			if got, ok := impl.PathIn(l, some, a, b); !slices.Equal(got, want) || ok != linked {
				t.Fatalf("PathIn(%v, %v, %d, %d) = %v, %v, not %v, %v", l, some, a, b, got, ok, want, linked)
			}
		}
	}
	if !slices.Equal(l, edges) || !slices.Equal(some, chosen) {
		t.Fatalf("written into: %v, %v, once %v, %v", l, some, edges, chosen)
	}
}

// checkCut asks CutOf, as said or not.
func checkCut(t *testing.T, l []impl.Edge, side []int) []int {
	t.Helper()
	edges, nodes := slices.Clone(l), slices.Clone(side)
	can := plainEdges(l) && plainRising(side, 8)
	var want []int
	for k, e := range l {
		ends := 0
		for _, node := range side {
			if node == e.A || node == e.B {
				ends++
			}
		}
		if can && ends == 1 {
			want = append(want, k)
		}
	}
	got, ok := impl.CutOf(l, side)
	if !slices.Equal(got, want) || ok != can {
		t.Fatalf("CutOf(%v, %v) = %v, %v, not %v, %v", l, side, got, ok, want, can)
	}
	if !slices.Equal(l, edges) || !slices.Equal(side, nodes) {
		t.Fatalf("written into: %v, %v, once %v, %v", l, side, edges, nodes)
	}
	return got
}

// chosen are the places of the bits that are set, rising.
func chosen(bits int) []int {
	var places []int
	for place := 0; bits>>place > 0; place++ {
		if bits>>place&1 == 1 {
			places = append(places, place)
		}
	}
	return places
}

// askOfEdges asks everything of these edges: some by themselves, all, those of the tree; every side.
func askOfEdges(t *testing.T, l []impl.Edge) {
	t.Helper()
	tree := checkTree(t, l)
	checkSome(t, l, nil)
	checkSome(t, l, []int{})
	checkSome(t, l, allOf(l))
	checkSome(t, l, tree)
	for _, k := range []int{math.MinInt, -1, 0, 1, len(l) / 2, len(l) - 1, len(l), len(l) + 1, math.MaxInt} {
		checkSome(t, l, []int{k})
		checkSome(t, l, []int{0, k})
		checkSome(t, l, without(allOf(l), k))
		checkCut(t, l, []int{k})
		checkCut(t, l, []int{0, k})
	}
	for bits := range 1 << 8 {
		cut := checkCut(t, l, chosen(bits))
		if len(cut) > 0 {
			cheapest := slices.MinFunc(cut, func(j, k int) int { return l[j].Cost - l[k].Cost })
			if !slices.Contains(tree, cheapest) {
				t.Fatalf("Kruskal(%v) = %v without %d, the first of the cheapest in the cut of %v", l, tree, cheapest, chosen(bits))
			}
		}
	}
}

func wantParts(t *testing.T, l []impl.Edge, some []int, want ...int) {
	t.Helper()
	checkSome(t, l, some)
	if got, ok := impl.PartsOf(l, some); !slices.Equal(got, want) || !ok {
		t.Errorf("PartsOf(%v, %v) = %v, %v, not %v", l, some, got, ok, want)
	}
}

func wantForest(t *testing.T, l []impl.Edge, some []int, want bool) {
	t.Helper()
	checkSome(t, l, some)
	if got, ok := impl.IsForest(l, some); got != want || !ok {
		t.Errorf("IsForest(%v, %v) = %v, %v", l, some, got, ok)
	}
}

// wantPath asks for it both ways.
func wantPath(t *testing.T, l []impl.Edge, some []int, a int, b int, want ...int) {
	t.Helper()
	checkSome(t, l, some)
	if got, ok := impl.PathIn(l, some, a, b); !slices.Equal(got, want) || !ok {
		t.Errorf("PathIn(%v, %v, %d, %d) = %v, %v, not %v", l, some, a, b, got, ok, want)
	}
	slices.Reverse(want)
	if got, ok := impl.PathIn(l, some, b, a); !slices.Equal(got, want) || !ok {
		t.Errorf("PathIn(%v, %v, %d, %d) = %v, %v, not %v", l, some, b, a, got, ok, want)
	}
}

func wantNoPath(t *testing.T, what string, l []impl.Edge, some []int, a int, b int) {
	t.Helper()
	checkSome(t, l, some)
	for range 2 {
		if got, ok := impl.PathIn(l, some, a, b); len(got) != 0 || ok {
			t.Errorf("%s: PathIn(%v, %v, %d, %d) = %v, %v", what, l, some, a, b, got, ok)
		}
		a, b = b, a
	}
}

func wantNotSome(t *testing.T, what string, l []impl.Edge, some []int) {
	t.Helper()
	if got, ok := impl.PartsOf(l, some); len(got) != 0 || ok {
		t.Errorf("%s: PartsOf(%v, %v) = %v, %v", what, l, some, got, ok)
	}
	if got, ok := impl.IsForest(l, some); got || ok {
		t.Errorf("%s: IsForest(%v, %v) = %v, %v", what, l, some, got, ok)
	}
	wantNoPath(t, what, l, some, 0, 0)
	wantNoPath(t, what, l, some, 0, 1)
}

func wantCutOf(t *testing.T, l []impl.Edge, side []int, want ...int) {
	t.Helper()
	if got := checkCut(t, l, side); !slices.Equal(got, want) {
		t.Errorf("CutOf(%v, %v) = %v, not %v", l, side, got, want)
	}
}

func wantNoCutOf(t *testing.T, what string, l []impl.Edge, side []int) {
	t.Helper()
	checkCut(t, l, side)
	if got, ok := impl.CutOf(l, side); len(got) != 0 || ok {
		t.Errorf("%s: CutOf(%v, %v) = %v, %v", what, l, side, got, ok)
	}
}

func TestPartsKnown(t *testing.T) {
	l := someRounds()
	wantParts(t, l, nil, 0, 1, 2, 3, 4, 5, 6, 7)
	wantParts(t, l, []int{}, 0, 1, 2, 3, 4, 5, 6, 7)
	wantParts(t, l, allOf(l), 0, 0, 0, 0, 4, 4, 4, 7)
	wantParts(t, l, []int{2}, 0, 1, 2, 2, 4, 5, 6, 7)
	wantParts(t, l, []int{2, 4}, 0, 1, 1, 1, 4, 5, 6, 7)
	wantParts(t, l, []int{2, 3, 4}, 0, 0, 0, 0, 4, 5, 6, 7)
	wantParts(t, l, []int{0, 2}, 0, 0, 2, 2, 4, 5, 6, 7)
	wantParts(t, l, []int{7}, 0, 1, 2, 3, 4, 5, 5, 7)
	wantParts(t, l, []int{5, 7}, 0, 1, 2, 3, 4, 4, 4, 7)
	wantParts(t, nil, nil, 0, 1, 2, 3, 4, 5, 6, 7)
	// The least node comes to a part at last, and to two at once.
	wantParts(t, []impl.Edge{edge(7, 6, 0), edge(6, 5, 0), edge(5, 4, 0), edge(4, 0, 0)}, []int{0, 1, 2, 3}, 0, 1, 2, 3, 0, 0, 0, 0)
	wantParts(t, []impl.Edge{edge(7, 6, 0), edge(2, 3, 0), edge(3, 7, 0)}, []int{0, 1, 2}, 0, 1, 2, 2, 4, 5, 2, 2)
	wantParts(t, []impl.Edge{edge(7, 6, 0), edge(2, 3, 0), edge(3, 7, 0)}, []int{0, 2}, 0, 1, 2, 3, 4, 5, 3, 3)
}

func TestForestsKnown(t *testing.T) {
	l := someRounds()
	wantForest(t, l, nil, true)
	wantForest(t, l, []int{}, true)
	wantForest(t, nil, nil, true)
	wantForest(t, l, allOf(l), false)
	for k := range l {
		wantForest(t, l, []int{k}, true)
	}
	wantForest(t, l, []int{7, 8}, false)
	wantForest(t, l, []int{0, 7, 8}, false)
	wantForest(t, l, []int{0, 1, 2, 3}, false)
	wantForest(t, l, []int{0, 1, 2}, true)
	wantForest(t, l, []int{1, 2, 4}, false)
	wantForest(t, l, []int{0, 3, 4}, false)
	wantForest(t, l, []int{5, 6, 7}, false)
	wantForest(t, l, []int{5, 6, 8}, false)
	wantForest(t, l, []int{0, 1, 2, 5, 7}, true)
	wantForest(t, l, []int{0, 1, 2, 5, 6, 7}, false)
	l = []impl.Edge{edge(0, 1, 0), edge(1, 2, 0), edge(2, 3, 0), edge(3, 4, 0), edge(4, 5, 0), edge(5, 6, 0), edge(6, 7, 0), edge(7, 0, 0)}
	wantForest(t, l, []int{0, 1, 2, 3, 4, 5, 6}, true)
	wantForest(t, l, []int{1, 2, 3, 4, 5, 6, 7}, true)
	wantForest(t, l, allOf(l), false)
}

func TestCutsKnown(t *testing.T) {
	l := someRounds()
	wantCutOf(t, l, nil)
	wantCutOf(t, l, []int{})
	wantCutOf(t, l, []int{0, 1, 2, 3, 4, 5, 6, 7})
	wantCutOf(t, l, []int{0, 1, 2, 3})
	wantCutOf(t, l, []int{4, 5, 6, 7})
	wantCutOf(t, l, []int{7})
	wantCutOf(t, l, []int{0}, 0, 3)
	wantCutOf(t, l, []int{1}, 0, 1, 4)
	wantCutOf(t, l, []int{0, 1}, 1, 3, 4)
	wantCutOf(t, l, []int{0, 2}, 0, 1, 2, 3)
	wantCutOf(t, l, []int{2, 3}, 1, 3, 4)
	wantCutOf(t, l, []int{6}, 5, 7, 8)
	wantCutOf(t, l, []int{3, 6}, 2, 3, 4, 5, 7, 8)
	wantCutOf(t, nil, nil)
	wantCutOf(t, nil, []int{0, 7})
}

func TestPathsKnown(t *testing.T) {
	l := someRounds()
	tree := []int{0, 1, 2, 5, 7}
	wantPath(t, l, tree, 0, 1, 0)
	wantPath(t, l, tree, 0, 2, 0, 1)
	wantPath(t, l, tree, 0, 3, 0, 1, 2)
	wantPath(t, l, tree, 1, 3, 1, 2)
	wantPath(t, l, tree, 4, 5, 5, 7)
	wantPath(t, l, []int{5, 6}, 5, 6, 6, 5)
	wantPath(t, l, []int{2, 3, 4}, 0, 1, 3, 4)
	wantPath(t, l, []int{1, 3, 4}, 0, 2, 3, 4, 1)
	row := []impl.Edge{edge(3, 0, 0), edge(6, 1, 0), edge(7, 3, 0), edge(2, 7, 0), edge(1, 5, 0), edge(4, 2, 0), edge(4, 6, 0)}
	wantPath(t, row, allOf(row), 0, 5, 0, 2, 3, 5, 6, 1, 4)
	star := []impl.Edge{edge(3, 0, 0), edge(1, 3, 0), edge(3, 2, 0), edge(4, 3, 0), edge(5, 3, 0), edge(3, 6, 0), edge(3, 7, 0)}
	wantPath(t, star, allOf(star), 0, 7, 0, 6)
	wantPath(t, star, allOf(star), 5, 2, 4, 2)
	wantPath(t, star, []int{1, 6}, 7, 1, 6, 1)
}

func TestPathsToItself(t *testing.T) {
	for _, l := range [][]impl.Edge{nil, someRounds()} {
		for node := range 8 {
			wantPath(t, l, nil, node, node)
			if len(l) > 0 {
				wantPath(t, l, []int{0, 1, 2, 5, 7}, node, node)
				wantNoPath(t, "by what is no forest", l, []int{7, 8}, node, node)
			}
		}
	}
}

func TestNoPaths(t *testing.T) {
	l := someRounds()
	tree := []int{0, 1, 2, 5, 7}
	wantNoPath(t, "in unlike parts", l, tree, 0, 4)
	wantNoPath(t, "to one alone", l, tree, 6, 7)
	wantNoPath(t, "by no edges", l, nil, 0, 1)
	wantNoPath(t, "an edge that is not of some", l, []int{1, 2}, 0, 1)
	wantNoPath(t, "an edge in the middle is missing", l, []int{0, 2}, 0, 3)
	wantNoPath(t, "round", l, []int{0, 1, 2, 3}, 0, 1)
	wantNoPath(t, "a round elsewhere", l, []int{0, 5, 6, 7}, 0, 1)
	wantNoPath(t, "twice the same", l, []int{0, 7, 8}, 5, 6)
	wantNoPath(t, "all", l, allOf(l), 0, 1)
	for _, a := range []int{math.MinInt, -1, 8, 9, math.MaxInt} {
		for _, b := range []int{0, 7, a} {
			wantNoPath(t, "no node", l, tree, a, b)
			wantNoPath(t, "no node", l, nil, a, b)
			wantNoPath(t, "no node", nil, nil, a, b)
		}
	}
}

func TestSomeWrong(t *testing.T) {
	l := someRounds()
	for what, some := range map[string][]int{
		"falling": {1, 0}, "falling at last": {0, 1, 3, 2}, "falling at first": {4, 0, 1, 2}, "twice": {2, 2},
		"twice at last": {0, 1, 2, 2}, "twice, apart": {0, 1, 0}, "below 0": {-1}, "below 0 at first": {-1, 0, 1},
		"one behind the last": {9}, "one behind the last, at last": {0, 1, 9}, "far behind": {0, math.MaxInt}, "far below": {math.MinInt, 0},
		"all, and one": append(allOf(l), 9), "all twice": append(allOf(l), allOf(l)...), "many": make([]int, 5000),
	} {
		wantNotSome(t, what, l, some)
	}
	for _, l := range [][]impl.Edge{nil, {}} {
		wantNotSome(t, "no edges", l, []int{0})
		wantNotSome(t, "no edges", l, []int{-1})
	}
}

func TestSidesWrong(t *testing.T) {
	for _, l := range [][]impl.Edge{nil, someRounds()} {
		for what, side := range map[string][]int{
			"falling": {1, 0}, "falling at last": {0, 1, 3, 2}, "falling at first": {4, 0, 1, 2}, "twice": {2, 2},
			"twice at last": {0, 1, 2, 2}, "twice, apart": {0, 1, 0}, "below 0": {-1}, "below 0 at first": {-1, 0, 1},
			"MaxNodes": {8}, "MaxNodes at last": {0, 1, 8}, "far behind": {0, math.MaxInt}, "far below": {math.MinInt, 0},
			"all, and one": {0, 1, 2, 3, 4, 5, 6, 7, 8}, "all twice": {0, 1, 2, 3, 4, 5, 6, 7, 0, 1, 2, 3, 4, 5, 6, 7}, "many": make([]int, 5000),
		} {
			wantNoCutOf(t, what, l, side)
		}
	}
}

func TestEveryChoice(t *testing.T) {
	l := someRounds()
	for bits := range 1 << len(l) {
		checkSome(t, l, chosen(bits))
	}
}

func TestPartsMixed(t *testing.T) {
	r := rand.New(rand.NewSource(7777))
	for range 1500 {
		l := someEdges(r, r.Intn(25), 2+r.Intn(7), 5)
		var some []int
		for k := range l {
			if r.Intn(4) == 0 {
				some = append(some, k)
			}
		}
		if len(some) > 0 && r.Intn(5) == 0 {
			some[r.Intn(len(some))] += r.Intn(5) - 2
		}
		checkSome(t, l, some)
	}
	for range 40 {
		askOfEdges(t, someEdges(r, r.Intn(25), 2+r.Intn(7), []int{0, 2, 1000}[r.Intn(3)]))
	}
}
