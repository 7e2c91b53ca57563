package tests

import (
	"math"
	"math/rand"
	"slices"
	"testing"

	"loop.example/g00315/impl"
)

// pipe is one in the order in which it is told: from where, to where, its cap.
func pipe(from int, to int, most int) impl.Pipe {
	return impl.Pipe{From: from, To: to, Cap: most}
}

// plainPipes asks for the rules of pipes one after another.
func plainPipes(l []impl.Pipe) bool {
	for _, p := range l {
		if p.From < 0 || p.From > 7 || p.To < 0 || p.To > 7 || p.From == p.To || p.Cap < 0 || p.Cap > 100 {
			return false
		}
	}
	return len(l) <= 20
}

func plainCan(l []impl.Pipe, from int, to int) bool {
	return plainPipes(l) && plainNode(from) && plainNode(to) && from != to
}

// plainCaps is how much the pipes that lead out of a side bear; a side is told by its bits.
func plainCaps(l []impl.Pipe, side int) int {
	caps := 0
	for _, p := range l {
		if side>>p.From&1 == 1 && side>>p.To&1 == 0 {
			caps += p.Cap
		}
	}
	return caps
}

// plainMinCut asks every side: how little a cut bears, and the nodes that are on each side that bears so little (that is one of them, too, and where what flows can still go).
func plainMinCut(l []impl.Pipe, from int, to int) ([]int, int) {
	least, common := math.MaxInt, 0
	for side := range 1 << 8 {
		if side>>from&1 == 0 || side>>to&1 == 1 {
			continue
		}
		switch caps := plainCaps(l, side); {
		case caps < least:
			least, common = caps, side
		case caps == least:
			common &= side
		}
	}
	return chosen(common), least
}

// plainMaxFlow puts on plainAugment's rows one by one.
func plainMaxFlow(l []impl.Pipe, from int, to int) []int {
	flow := make([]int, len(l))
	for {
		grown, _, ok := plainAugment(l, from, to, flow)
		if !ok {
			return flow
		}
		flow = grown
	}
}

// checkMaxFlow asks GoodPipes, MaxFlow and MinCut, as said or not, and holds the one against the other.
func checkMaxFlow(t *testing.T, l []impl.Pipe, from int, to int) ([]int, int) {
	t.Helper()
	was := slices.Clone(l)
	can := plainCan(l, from, to)
	var want, cut []int
	much := 0
	if can {
		want = plainMaxFlow(l, from, to)
		cut, much = plainMinCut(l, from, to)
	}
	if ok := impl.GoodPipes(l); ok != plainPipes(l) {
		t.Fatalf("GoodPipes(%v) = %v", l, ok)
	}
	flow, through, ok := impl.MaxFlow(l, from, to)
	if !slices.Equal(flow, want) || through != much || ok != can {
		t.Fatalf("MaxFlow(%v, %d, %d) = %v, %d, %v, not %v, %d, %v", l, from, to, flow, through, ok, want, much, can)
	}
	side, caps, ok := impl.MinCut(l, from, to)
	if !slices.Equal(side, cut) || caps != much || ok != can {
		t.Fatalf("MinCut(%v, %d, %d) = %v, %d, %v, not %v, %d, %v", l, from, to, side, caps, ok, cut, much, can)
	}
	if can {
		checkOneByOne(t, l, from, to, flow)
		if told, ok := impl.CutSize(l, side); told != much || !ok {
			t.Fatalf("CutSize(%v, %v) = %d, %v, not %d", l, side, told, ok, much)
		}
	}
	if !slices.Equal(l, was) {
		t.Fatalf("written into: %v, once %v", l, was)
	}
	return flow, through
}

// checkOneByOne asks that AugmentOnce, from nothing on, comes to the same flow, which is one.
func checkOneByOne(t *testing.T, l []impl.Pipe, from int, to int, want []int) {
	t.Helper()
	flow, much := make([]int, len(l)), 0
	for {
		grown, put, ok := checkFlow(t, l, from, to, flow)
		if !ok {
			break
		}
		flow, much = grown, much+put
	}
	if !slices.Equal(flow, want) {
		t.Fatalf("AugmentOnce of %v from %d to %d comes to %v, MaxFlow to %v", l, from, to, flow, want)
	}
	if is, ok := impl.IsFlow(l, from, to, flow); !is || !ok {
		t.Fatalf("MaxFlow(%v, %d, %d) = %v: no flow", l, from, to, flow)
	}
	if told, ok := impl.FlowOf(l, from, to, flow); told != much || !ok {
		t.Fatalf("FlowOf(%v, %d, %d, %v) = %d, %v, not %d", l, from, to, flow, told, ok, much)
	}
}

// checkCutSize asks CutSize, as said or not.
func checkCutSize(t *testing.T, l []impl.Pipe, side []int) int {
	t.Helper()
	pipes, nodes := slices.Clone(l), slices.Clone(side)
	can := plainPipes(l) && plainRising(side, 8)
	want := 0
	for _, p := range l {
		if can && slices.Contains(side, p.From) && !slices.Contains(side, p.To) {
			want += p.Cap
		}
	}
	got, ok := impl.CutSize(l, side)
	if got != want || ok != can {
		t.Fatalf("CutSize(%v, %v) = %d, %v, not %d, %v", l, side, got, ok, want, can)
	}
	if !slices.Equal(l, pipes) || !slices.Equal(side, nodes) {
		t.Fatalf("written into: %v, %v, once %v, %v", l, side, pipes, nodes)
	}
	return got
}

// checkEverySide asks that no side of from without to lets less through, and all sides how much they let.
func checkEverySide(t *testing.T, l []impl.Pipe, from int, to int) {
	t.Helper()
	_, through := checkMaxFlow(t, l, from, to)
	least := math.MaxInt
	for bits := range 1 << 8 {
		caps := checkCutSize(t, l, chosen(bits))
		if bits>>from&1 == 1 && bits>>to&1 == 0 {
			least = min(least, caps)
		}
	}
	if through != least {
		t.Fatalf("MaxFlow(%v, %d, %d): %d, the least cut lets %d", l, from, to, through, least)
	}
}

// askOfPipes asks everything of these pipes: between all nodes, and those that are none; every side.
func askOfPipes(t *testing.T, l []impl.Pipe) {
	t.Helper()
	for _, from := range edgeNodes() {
		for _, to := range edgeNodes() {
			checkMaxFlow(t, l, from, to)
			checkFlow(t, l, from, to, make([]int, len(l)))
		}
		checkCutSize(t, l, []int{from})
		checkCutSize(t, l, []int{0, from})
	}
	for bits := range 1 << 8 {
		checkCutSize(t, l, chosen(bits))
	}
}

func wantMaxFlow(t *testing.T, l []impl.Pipe, from int, to int, much int, want ...int) {
	t.Helper()
	if flow, through := checkMaxFlow(t, l, from, to); !slices.Equal(flow, want) || through != much {
		t.Errorf("MaxFlow(%v, %d, %d) = %v, %d, not %v, %d", l, from, to, flow, through, want, much)
	}
	checkEverySide(t, l, from, to)
	askOfFlow(t, l, from, to, want)
	wantNoMore(t, "all that gets through", l, from, to, want)
}

func wantMinCut(t *testing.T, l []impl.Pipe, from int, to int, much int, want ...int) {
	t.Helper()
	checkEverySide(t, l, from, to)
	if side, caps, ok := impl.MinCut(l, from, to); !slices.Equal(side, want) || caps != much || !ok {
		t.Errorf("MinCut(%v, %d, %d) = %v, %d, %v, not %v, %d", l, from, to, side, caps, ok, want, much)
	}
}

func wantCutSize(t *testing.T, l []impl.Pipe, side []int, want int) {
	t.Helper()
	if got := checkCutSize(t, l, side); got != want {
		t.Errorf("CutSize(%v, %v) = %d, not %d", l, side, got, want)
	}
	if _, ok := impl.CutSize(l, side); !ok {
		t.Errorf("CutSize(%v, %v) tells false", l, side)
	}
}

func wantNoCutSize(t *testing.T, what string, l []impl.Pipe, side []int) {
	t.Helper()
	checkCutSize(t, l, side)
	if got, ok := impl.CutSize(l, side); got != 0 || ok {
		t.Errorf("%s: CutSize(%v, %v) = %d, %v", what, l, side, got, ok)
	}
}

func wantNoMaxFlow(t *testing.T, what string, l []impl.Pipe, from int, to int) {
	t.Helper()
	if flow, much, ok := impl.MaxFlow(l, from, to); len(flow) != 0 || much != 0 || ok {
		t.Errorf("%s: MaxFlow(%v, %d, %d) = %v, %d, %v", what, l, from, to, flow, much, ok)
	}
	if side, much, ok := impl.MinCut(l, from, to); len(side) != 0 || much != 0 || ok {
		t.Errorf("%s: MinCut(%v, %d, %d) = %v, %d, %v", what, l, from, to, side, much, ok)
	}
}

// somePipes lets 5 through from 0 to 3, by 1, by 2, and by both.
func somePipes() []impl.Pipe {
	return []impl.Pipe{pipe(0, 1, 3), pipe(0, 2, 2), pipe(1, 2, 5), pipe(1, 3, 2), pipe(2, 3, 3)}
}

// goingBack lets 2 through from 0 to 3, though the shortest row takes the pipe from 1 to 2 that neither of both can be with.
func goingBack() []impl.Pipe {
	return []impl.Pipe{
		pipe(0, 1, 1), pipe(1, 2, 1), pipe(2, 3, 1),
		pipe(0, 4, 1), pipe(4, 5, 1), pipe(5, 2, 1),
		pipe(1, 6, 1), pipe(6, 7, 1), pipe(7, 3, 1),
	}
}

func anyPipes(r *rand.Rand, many int, nodes int, most int) []impl.Pipe {
	l := make([]impl.Pipe, many)
	for i := range l {
		from := r.Intn(nodes)
		l[i] = pipe(from, (from+1+r.Intn(nodes-1))%nodes, r.Intn(most+1))
	}
	return l
}

func TestMaxFlowKnown(t *testing.T) {
	wantMaxFlow(t, somePipes(), 0, 3, 5, 3, 2, 1, 2, 3)
	wantMaxFlow(t, somePipes(), 0, 2, 5, 3, 2, 3, 0, 0)
	wantMaxFlow(t, somePipes(), 1, 3, 5, 0, 0, 3, 2, 3)
	wantMaxFlow(t, somePipes(), 3, 0, 0, 0, 0, 0, 0, 0)
	wantMaxFlow(t, somePipes(), 0, 7, 0, 0, 0, 0, 0, 0)
	// In a row the narrowest tells, wherever it is.
	wantMaxFlow(t, []impl.Pipe{pipe(0, 1, 3), pipe(1, 2, 5), pipe(2, 7, 4)}, 0, 7, 3, 3, 3, 3)
	wantMaxFlow(t, []impl.Pipe{pipe(0, 1, 6), pipe(1, 2, 5), pipe(2, 7, 9)}, 0, 7, 5, 5, 5, 5)
	wantMaxFlow(t, []impl.Pipe{pipe(2, 7, 1), pipe(1, 2, 5), pipe(0, 1, 4)}, 0, 7, 1, 1, 1, 1)
	// Side by side all of them together.
	wantMaxFlow(t, []impl.Pipe{pipe(6, 1, 3), pipe(6, 2, 5), pipe(1, 5, 4), pipe(2, 5, 2), pipe(6, 5, 1)}, 6, 5, 6, 3, 2, 3, 2, 1)
}

func TestMaxFlowWithRounds(t *testing.T) {
	l := []impl.Pipe{pipe(0, 1, 4), pipe(1, 2, 9), pipe(2, 3, 9), pipe(3, 1, 9), pipe(3, 7, 3), pipe(7, 0, 9)}
	wantMaxFlow(t, l, 0, 7, 3, 3, 3, 3, 0, 3, 0)
	wantMaxFlow(t, l, 7, 3, 4, 4, 4, 4, 0, 0, 4)
	wantMaxFlow(t, l, 3, 2, 9, 0, 9, 0, 9, 0, 0)
	l[1].Cap = 13
	wantMaxFlow(t, l, 3, 2, 12, 3, 12, 0, 9, 3, 3)
}

func TestMaxFlowGoesBack(t *testing.T) {
	wantMore(t, goingBack(), 0, 3, make([]int, 9), 1, 1, 1, 1, 0, 0, 0, 0, 0, 0)
	wantMore(t, goingBack(), 0, 3, []int{1, 1, 1, 0, 0, 0, 0, 0, 0}, 1, 1, 0, 1, 1, 1, 1, 1, 1, 1)
	wantMaxFlow(t, goingBack(), 0, 3, 2, 1, 0, 1, 1, 1, 1, 1, 1, 1)
	wantMinCut(t, goingBack(), 0, 3, 2, 0)
	// Part of what is in the pipe stays there.
	l := goingBack()
	for k, most := range []int{5, 5, 5, 3, 9, 9, 4, 9, 9} {
		l[k].Cap = most
	}
	wantMaxFlow(t, l, 0, 3, 8, 5, 2, 5, 3, 3, 3, 3, 3, 3)
	wantMinCut(t, l, 0, 3, 8, 0)
	l[6].Cap = 2
	wantMaxFlow(t, l, 0, 3, 7, 5, 3, 5, 2, 2, 2, 2, 2, 2)
	wantMinCut(t, l, 0, 3, 7, 0, 1, 2, 4, 5)
}

func TestMinCutKnown(t *testing.T) {
	wantMinCut(t, somePipes(), 0, 3, 5, 0)
	row := []impl.Pipe{pipe(0, 1, 3), pipe(1, 2, 2), pipe(2, 3, 3)}
	wantMinCut(t, row, 0, 3, 2, 0, 1)
	row[2].Cap = 1
	wantMinCut(t, row, 0, 3, 1, 0, 1, 2)
	// Of cuts that let as little the one that is nearest to from.
	row[0].Cap, row[1].Cap = 1, 1
	wantMinCut(t, row, 0, 3, 1, 0)
	wantMinCut(t, row, 3, 0, 0, 3)
	wantMinCut(t, row, 1, 7, 0, 1, 2, 3)
	// What leads back into the side does not count.
	wantMinCut(t, []impl.Pipe{pipe(0, 1, 9), pipe(1, 2, 3), pipe(2, 1, 50), pipe(2, 0, 50), pipe(2, 3, 9)}, 0, 3, 3, 0, 1)
	// A node is reached back along a pipe that is full.
	wantMinCut(t, []impl.Pipe{pipe(0, 1, 2), pipe(1, 3, 2), pipe(0, 2, 9), pipe(2, 3, 2), pipe(1, 4, 1), pipe(2, 1, 1)}, 0, 3, 4, 0, 1, 2, 4)
	// One beside all rows is on the side, too, where it can be reached.
	wantMinCut(t, []impl.Pipe{pipe(0, 1, 1), pipe(0, 6, 1), pipe(6, 5, 1), pipe(4, 1, 9)}, 0, 1, 1, 0, 5, 6)
}

func TestCutSizesKnown(t *testing.T) {
	l := somePipes()
	wantCutSize(t, l, nil, 0)
	wantCutSize(t, l, []int{}, 0)
	wantCutSize(t, l, []int{0, 1, 2, 3, 4, 5, 6, 7}, 0)
	wantCutSize(t, l, []int{0, 1, 2, 3}, 0)
	wantCutSize(t, l, []int{4, 5, 6, 7}, 0)
	wantCutSize(t, l, []int{0}, 5)
	wantCutSize(t, l, []int{1}, 7)
	wantCutSize(t, l, []int{2}, 3)
	wantCutSize(t, l, []int{3}, 0)
	wantCutSize(t, l, []int{0, 1}, 9)
	wantCutSize(t, l, []int{0, 2}, 6)
	wantCutSize(t, l, []int{1, 2}, 5)
	wantCutSize(t, l, []int{0, 1, 2}, 5)
	wantCutSize(t, l, []int{1, 7}, 7)
	wantCutSize(t, nil, nil, 0)
	wantCutSize(t, nil, []int{0, 7}, 0)
	wantCutSize(t, slices.Repeat([]impl.Pipe{pipe(7, 0, 100)}, 20), []int{7}, 2000)
	wantCutSize(t, slices.Repeat([]impl.Pipe{pipe(7, 0, 100)}, 20), []int{0}, 0)
}

func TestNoPipes(t *testing.T) {
	for _, l := range [][]impl.Pipe{nil, {}} {
		if !impl.GoodPipes(l) {
			t.Errorf("%v are not good", l)
		}
		wantMaxFlow(t, l, 0, 7, 0)
		wantMinCut(t, l, 0, 7, 0, 0)
		wantMinCut(t, l, 5, 2, 0, 5)
		askOfPipes(t, l)
	}
}

func TestMaxPipes(t *testing.T) {
	l := slices.Repeat([]impl.Pipe{pipe(0, 7, 100)}, 20)
	if !impl.GoodPipes(l) {
		t.Error("20 pipes are not good")
	}
	flow, much, ok := impl.MaxFlow(l, 0, 7)
	if much != 2000 || !ok || !slices.Equal(flow, slices.Repeat([]int{100}, 20)) {
		t.Errorf("%v, %d, %v", flow, much, ok)
	}
	wantMinCut(t, l, 0, 7, 2000, 0)
	wantFlow(t, l, 0, 7, flow, 2000)
	wantFlow(t, l, 7, 0, flow, -2000)
	wantMore(t, l, 0, 7, make([]int, 20), 100, append([]int{100}, make([]int, 19)...)...)
	// As long as a row can be, and all in it.
	l = slices.Repeat([]impl.Pipe{pipe(0, 1, 100)}, 14)
	for node := 1; node < 7; node++ {
		l = append(l, pipe(node, node+1, 100))
	}
	checkEverySide(t, l, 0, 7)
	wantMaxFlow(t, l, 0, 7, 100, append(append([]int{100}, make([]int, 13)...), 100, 100, 100, 100, 100, 100)...)
	askOfPipes(t, l)
}

func TestCapsAtTheirBounds(t *testing.T) {
	wantMaxFlow(t, []impl.Pipe{pipe(0, 1, 0)}, 0, 1, 0, 0)
	wantMinCut(t, []impl.Pipe{pipe(0, 1, 0)}, 0, 1, 0, 0)
	wantMaxFlow(t, []impl.Pipe{pipe(0, 1, 100)}, 0, 1, 100, 100)
	wantMaxFlow(t, []impl.Pipe{pipe(0, 1, 100), pipe(1, 2, 0), pipe(0, 2, 1)}, 0, 2, 1, 0, 0, 1)
	wantMinCut(t, []impl.Pipe{pipe(0, 1, 100), pipe(1, 2, 0), pipe(0, 2, 1)}, 0, 2, 1, 0, 1)
	wantMaxFlow(t, []impl.Pipe{pipe(0, 1, 100), pipe(1, 2, 100), pipe(0, 2, 100)}, 0, 2, 200, 100, 100, 100)
}

func TestPipesBetweenTheSame(t *testing.T) {
	wantMaxFlow(t, []impl.Pipe{pipe(0, 1, 3), pipe(0, 1, 4)}, 0, 1, 7, 3, 4)
	wantMaxFlow(t, []impl.Pipe{pipe(0, 1, 3), pipe(1, 0, 4)}, 0, 1, 3, 3, 0)
	wantMaxFlow(t, []impl.Pipe{pipe(0, 1, 3), pipe(1, 0, 4)}, 1, 0, 4, 0, 4)
	wantMaxFlow(t, []impl.Pipe{pipe(0, 1, 3), pipe(1, 0, 4), pipe(0, 1, 5), pipe(1, 2, 6), pipe(2, 1, 9)}, 0, 2, 6, 3, 0, 3, 6, 0)
	wantMinCut(t, []impl.Pipe{pipe(0, 1, 3), pipe(1, 0, 4), pipe(0, 1, 5), pipe(1, 2, 6), pipe(2, 1, 9)}, 0, 2, 6, 0, 1)
}

// wrongPipes break each one rule of a pipe.
func wrongPipes() map[string]impl.Pipe {
	return map[string]impl.Pipe{
		"From -1":           pipe(-1, 1, 5),
		"From MaxNodes":     pipe(8, 1, 5),
		"From least of all": pipe(math.MinInt, 1, 5),
		"From most of all":  pipe(math.MaxInt, 1, 5),
		"To -1":             pipe(0, -1, 5),
		"To MaxNodes":       pipe(0, 8, 5),
		"To least of all":   pipe(0, math.MinInt, 5),
		"To most of all":    pipe(0, math.MaxInt, 5),
		"to itself":         pipe(0, 0, 5),
		"to itself, last":   pipe(7, 7, 5),
		"Cap -1":            pipe(0, 1, -1),
		"Cap 101":           pipe(0, 1, 101),
		"Cap least of all":  pipe(0, 1, math.MinInt),
		"Cap most of all":   pipe(0, 1, math.MaxInt),
		"nothing":           {},
	}
}

// wantBadPipes asks all functions at arguments that would do with good pipes.
func wantBadPipes(t *testing.T, what string, l []impl.Pipe) {
	t.Helper()
	if plainPipes(l) || impl.GoodPipes(l) {
		t.Errorf("%s: %v are good", what, l)
	}
	for _, to := range []int{1, 7} {
		checkMaxFlow(t, l, 0, to)
		wantNoMaxFlow(t, what, l, 0, to)
		wantNotAsSaid(t, what, l, 0, to, make([]int, len(l)))
		wantNotAsSaid(t, what, l, 0, to, nil)
	}
	for _, side := range [][]int{nil, {0}, {0, 1, 2, 3, 4, 5, 6, 7}} {
		wantNoCutSize(t, what, l, side)
	}
	askOfPipes(t, l)
}

func TestBadPipes(t *testing.T) {
	for what, p := range wrongPipes() {
		wantBadPipes(t, what, []impl.Pipe{p})
		wantBadPipes(t, what+", the first", append([]impl.Pipe{p}, somePipes()...))
		wantBadPipes(t, what+", the last", append(somePipes(), p))
		wantBadPipes(t, what+", the last of 20", append(slices.Repeat([]impl.Pipe{pipe(0, 1, 0)}, 19), p))
	}
	l := slices.Repeat([]impl.Pipe{pipe(0, 1, 1)}, 21)
	wantBadPipes(t, "one more than MaxPipes", l)
	wantBadPipes(t, "many more than MaxPipes", slices.Repeat(l, 40))
}

func TestBetweenWrongNodes(t *testing.T) {
	for _, l := range [][]impl.Pipe{nil, somePipes()} {
		for _, bad := range []int{math.MinInt, -8, -1, 8, 9, math.MaxInt} {
			for _, other := range []int{0, 3, 7, bad} {
				wantNoMaxFlow(t, "no node", l, bad, other)
				wantNoMaxFlow(t, "no node", l, other, bad)
			}
		}
		for node := range 8 {
			wantNoMaxFlow(t, "alike", l, node, node)
		}
	}
	askOfPipes(t, somePipes())
}

func TestSidesOfPipesWrong(t *testing.T) {
	for _, l := range [][]impl.Pipe{nil, somePipes()} {
		for what, side := range map[string][]int{
			"falling": {1, 0}, "falling at last": {0, 1, 3, 2}, "falling at first": {4, 0, 1, 2}, "twice": {2, 2},
			"twice at last": {0, 1, 2, 2}, "twice, apart": {0, 1, 0}, "below 0": {-1}, "below 0 at first": {-1, 0, 1},
			"MaxNodes": {8}, "MaxNodes at last": {0, 1, 8}, "far behind": {0, math.MaxInt}, "far below": {math.MinInt, 0},
			"all, and one": {0, 1, 2, 3, 4, 5, 6, 7, 8}, "all twice": {0, 1, 2, 3, 4, 5, 6, 7, 0, 1, 2, 3, 4, 5, 6, 7}, "many": make([]int, 5000),
		} {
			wantNoCutSize(t, what, l, side)
		}
	}
}

// TestFlowsOfAllSmall asks all choices of three pipes among four nodes, of a Cap of 1 and of 2, beside two that stay.
func TestFlowsOfAllSmall(t *testing.T) {
	var all []impl.Pipe
	for from := range 4 {
		for to := range 4 {
			if from != to {
				all = append(all, pipe(from, to, 1), pipe(from, to, 2))
			}
		}
	}
	for _, a := range all {
		for _, b := range all {
			for _, c := range all {
				checkMaxFlow(t, []impl.Pipe{a, b, c, pipe(0, 1, 2), pipe(2, 3, 2)}, 0, 3)
			}
		}
	}
}

func TestAsMuchAsTheLeastCutLets(t *testing.T) {
	r := rand.New(rand.NewSource(8))
	for range 1500 {
		nodes := 2 + r.Intn(7)
		l := anyPipes(r, r.Intn(21), nodes, []int{0, 1, 1, 2, 5, 100}[r.Intn(6)])
		from := r.Intn(nodes)
		checkMaxFlow(t, l, from, (from+1+r.Intn(nodes-1))%nodes)
	}
	for range 100 {
		nodes := 2 + r.Intn(7)
		l := anyPipes(r, r.Intn(21), nodes, []int{1, 3, 100}[r.Intn(3)])
		from := r.Intn(nodes)
		checkEverySide(t, l, from, (from+1+r.Intn(nodes-1))%nodes)
	}
	// Many pipes in layers, so that rows are long and what was put on must come back.
	for range 300 {
		l := goingBack()
		for k := range l {
			l[k].Cap = r.Intn(4)
		}
		l = append(l, anyPipes(r, 5, 8, 2)...)
		r.Shuffle(len(l), func(i, j int) { l[i], l[j] = l[j], l[i] })
		checkMaxFlow(t, l, 0, 3)
	}
}

func TestPipesMixed(t *testing.T) {
	r := rand.New(rand.NewSource(88))
	some := []int{math.MinInt, -1, 0, 0, 1, 2, 3, 3, 4, 5, 6, 7, 7, 8, 100, 101, math.MaxInt}
	one := func() int { return some[r.Intn(len(some))] }
	for range 3000 {
		l := anyPipes(r, r.Intn(23), 2+r.Intn(7), 5)
		for range r.Intn(3) {
			if len(l) > 0 {
				l[r.Intn(len(l))] = pipe(one(), one(), one())
			}
		}
		checkMaxFlow(t, l, one(), one())
		checkCutSize(t, l, []int{one(), one()})
		checkFlow(t, l, one(), one(), make([]int, r.Intn(23)))
	}
}

func TestPipesBehindTheirLength(t *testing.T) {
	for _, behind := range []impl.Pipe{pipe(0, 3, 9), pipe(9, 9, -5)} {
		all := append(somePipes(), behind, behind)
		was := slices.Clone(all)
		flow, side := []int{2, 0, 0, 2, 0, 1, -3}, []int{0, 1, 0, 99}
		wantMaxFlow(t, all[:5], 0, 3, 5, 3, 2, 1, 2, 3)
		wantMinCut(t, all[:5], 0, 3, 5, 0)
		wantMaxFlow(t, all[:0], 0, 3, 0)
		wantFlow(t, all[:5], 0, 3, flow[:5], 2)
		wantMore(t, all[:5], 0, 3, flow[:5], 2, 2, 2, 0, 2, 2)
		wantNotAsSaid(t, "behind the pipes' length", all[:5], 0, 3, flow[:6])
		wantNotAsSaid(t, "behind the numbers' length", all[:6], 0, 3, flow[:5])
		wantCutSize(t, all[:5], side[:2], 9)
		if !slices.Equal(all, was) || !slices.Equal(flow, []int{2, 0, 0, 2, 0, 1, -3}) || !slices.Equal(side, []int{0, 1, 0, 99}) {
			t.Errorf("written behind: %v, %v, %v", all, flow, side)
		}
	}
}

func TestFlowsNewMemory(t *testing.T) {
	l, flow := somePipes(), append(make([]int, 0, 40), 2, 0, 0, 2, 0)
	spoil := func(answer []int) {
		answer = answer[:cap(answer)]
		for i := range answer {
			answer[i] = -7
		}
	}
	for range 2 { // what was spoilt in the first round isn't there in the second
		most, _, _ := impl.MaxFlow(l, 0, 3)
		more, _, _ := impl.AugmentOnce(l, 0, 3, flow)
		side, _, _ := impl.MinCut(l, 0, 3)
		for _, x := range []struct{ got, want []int }{
			{most, []int{3, 2, 1, 2, 3}}, {more, []int{2, 2, 0, 2, 2}}, {side, []int{0}},
		} {
			if !slices.Equal(x.got, x.want) {
				t.Errorf("%v, not %v", x.got, x.want)
			}
			spoil(x.got)
		}
	}
	if !slices.Equal(l, somePipes()) || !slices.Equal(flow, []int{2, 0, 0, 2, 0}) || !slices.Equal(flow[:40][5:], make([]int, 35)) {
		t.Errorf("%v, %v", l, flow)
	}
}
