package tests

import (
	"math"
	"math/rand"
	"slices"
	"testing"

	"loop.example/g00315/impl"
)

// plainFlow asks for a flow's rules one after another, each node's comings and goings by themselves.
func plainFlow(l []impl.Pipe, from int, to int, flow []int) bool {
	for k, p := range l {
		if flow[k] < 0 || flow[k] > p.Cap {
			return false
		}
	}
	for node := range 8 {
		in, out := plainThrough(l, node, flow)
		if node != from && node != to && in != out {
			return false
		}
	}
	return true
}

// plainThrough is how much comes into a node, and how much goes out.
func plainThrough(l []impl.Pipe, node int, flow []int) (int, int) {
	in, out := 0, 0
	for k, p := range l {
		if p.To == node {
			in += flow[k]
		}
		if p.From == node {
			out += flow[k]
		}
	}
	return in, out
}

// plainRowOf goes through all rows of just so many steps, those by earlier pipes first; the first one that leads from a to b, its pipes and whether each is gone back.
func plainRowOf(l []impl.Pipe, a int, b int, flow []int, many int) ([]int, []bool, bool) {
	if many == 0 {
		return nil, nil, a == b
	}
	for k, p := range l {
		next, back := p.To, false
		if p.To == a {
			next, back = p.From, true
		}
		if p.From != a && p.To != a || !back && flow[k] == p.Cap || back && flow[k] == 0 {
			continue
		}
		if pipes, backs, ok := plainRowOf(l, next, b, flow, many-1); ok {
			return append([]int{k}, pipes...), append([]bool{back}, backs...), true
		}
	}
	return nil, nil, false
}

// plainReach goes on from a node as long as it can: which ones something more can be brought to.
func plainReach(l []impl.Pipe, from int, flow []int) [8]bool {
	var can [8]bool
	can[from] = true
	for range can {
		for k, p := range l {
			if can[p.From] && flow[k] < p.Cap {
				can[p.To] = true
			}
			if can[p.To] && flow[k] > 0 {
				can[p.From] = true
			}
		}
	}
	return can
}

// plainAugment needs no queue: of all shortest rows the one that is found in rounds has the earliest first pipe, then the earliest second one, and so on, as nodes of a round stand in the order of the rows that lead there.
func plainAugment(l []impl.Pipe, from int, to int, flow []int) ([]int, int, bool) {
	if !plainReach(l, from, flow)[to] {
		return nil, 0, false
	}
	for many := 1; ; many++ {
		pipes, backs, ok := plainRowOf(l, from, to, flow, many)
		if !ok {
			continue
		}
		more := math.MaxInt
		for i, k := range pipes {
			if backs[i] {
				more = min(more, flow[k])
			} else {
				more = min(more, l[k].Cap-flow[k])
			}
		}
		grown := slices.Clone(flow)
		for i, k := range pipes {
			if backs[i] {
				grown[k] -= more
			} else {
				grown[k] += more
			}
		}
		return grown, more, true
	}
}

// checkFlow asks IsFlow, FlowOf and AugmentOnce, as said or not; what AugmentOnce answers is a flow of as much more.
func checkFlow(t *testing.T, l []impl.Pipe, from int, to int, flow []int) ([]int, int, bool) {
	t.Helper()
	pipes, numbers := slices.Clone(l), slices.Clone(flow)
	can := plainCan(l, from, to) && len(flow) == len(l)
	is := can && plainFlow(l, from, to, flow)
	if got, ok := impl.IsFlow(l, from, to, flow); got != is || ok != can {
		t.Fatalf("IsFlow(%v, %d, %d, %v) = %v, %v, not %v, %v", l, from, to, flow, got, ok, is, can)
	}
	much, more, row := 0, 0, false
	var want []int
	if is {
		in, out := plainThrough(l, from, flow)
		much = out - in
		want, more, row = plainAugment(l, from, to, flow)
	}
	if got, ok := impl.FlowOf(l, from, to, flow); got != much || ok != is {
		t.Fatalf("FlowOf(%v, %d, %d, %v) = %d, %v, not %d, %v", l, from, to, flow, got, ok, much, is)
	}
	grown, put, ok := impl.AugmentOnce(l, from, to, flow)
	if !slices.Equal(grown, want) || put != more || ok != row {
		t.Fatalf("AugmentOnce(%v, %d, %d, %v) = %v, %d, %v, not %v, %d, %v", l, from, to, flow, grown, put, ok, want, more, row)
	}
	if row {
		if got, ok := impl.IsFlow(l, from, to, grown); !got || !ok {
			t.Fatalf("AugmentOnce(%v, %d, %d, %v) = %v: no flow", l, from, to, flow, grown)
		}
		if got, ok := impl.FlowOf(l, from, to, grown); got != much+put || !ok || put < 1 {
			t.Fatalf("AugmentOnce(%v, %d, %d, %v) = %v, %d: %d after %d", l, from, to, flow, grown, put, got, much)
		}
	}
	if !slices.Equal(l, pipes) || !slices.Equal(flow, numbers) {
		t.Fatalf("written into: %v, %v, once %v, %v", l, flow, pipes, numbers)
	}
	return grown, put, ok
}

// askOfFlow asks everything at a flow, and at others that are one number beside it.
func askOfFlow(t *testing.T, l []impl.Pipe, from int, to int, flow []int) {
	t.Helper()
	for k := range flow {
		for _, n := range []int{math.MinInt, -101, -1, 0, flow[k] - 1, flow[k] + 1, l[k].Cap, l[k].Cap + 1, 101, math.MaxInt} {
			other := slices.Clone(flow)
			other[k] = n
			checkFlow(t, l, from, to, other)
		}
	}
	for _, n := range []int{-1, 0, 1} {
		checkFlow(t, l, from, to, append(slices.Clone(flow), n))
	}
	if len(flow) > 0 {
		checkFlow(t, l, from, to, flow[1:])
		checkFlow(t, l, from, to, flow[:len(flow)-1])
	}
	checkFlow(t, l, to, from, flow)
	for _, a := range edgeNodes() {
		for _, b := range edgeNodes() {
			checkFlow(t, l, a, b, flow)
		}
	}
}

func wantFlow(t *testing.T, l []impl.Pipe, from int, to int, flow []int, much int) {
	t.Helper()
	checkFlow(t, l, from, to, flow)
	if is, ok := impl.IsFlow(l, from, to, flow); !is || !ok {
		t.Errorf("IsFlow(%v, %d, %d, %v) = %v, %v", l, from, to, flow, is, ok)
	}
	if got, ok := impl.FlowOf(l, from, to, flow); got != much || !ok {
		t.Errorf("FlowOf(%v, %d, %d, %v) = %d, %v, not %d", l, from, to, flow, got, ok, much)
	}
}

// wantNoFlow asks for numbers that are as many, but no flow.
func wantNoFlow(t *testing.T, what string, l []impl.Pipe, from int, to int, flow ...int) {
	t.Helper()
	checkFlow(t, l, from, to, flow)
	if is, ok := impl.IsFlow(l, from, to, flow); is || !ok {
		t.Errorf("%s: IsFlow(%v, %d, %d, %v) = %v, %v", what, l, from, to, flow, is, ok)
	}
	wantNoMore(t, what, l, from, to, flow)
	if got, ok := impl.FlowOf(l, from, to, flow); got != 0 || ok {
		t.Errorf("%s: FlowOf(%v, %d, %d, %v) = %d, %v", what, l, from, to, flow, got, ok)
	}
}

// wantNotAsSaid asks for numbers, pipes or nodes of which nothing is told.
func wantNotAsSaid(t *testing.T, what string, l []impl.Pipe, from int, to int, flow []int) {
	t.Helper()
	if is, ok := impl.IsFlow(l, from, to, flow); is || ok {
		t.Errorf("%s: IsFlow(%v, %d, %d, %v) = %v, %v", what, l, from, to, flow, is, ok)
	}
	if got, ok := impl.FlowOf(l, from, to, flow); got != 0 || ok {
		t.Errorf("%s: FlowOf(%v, %d, %d, %v) = %d, %v", what, l, from, to, flow, got, ok)
	}
	wantNoMore(t, what, l, from, to, flow)
}

func wantMore(t *testing.T, l []impl.Pipe, from int, to int, flow []int, much int, want ...int) {
	t.Helper()
	if grown, put, ok := checkFlow(t, l, from, to, flow); !slices.Equal(grown, want) || put != much || !ok {
		t.Errorf("AugmentOnce(%v, %d, %d, %v) = %v, %d, %v, not %v, %d", l, from, to, flow, grown, put, ok, want, much)
	}
}

func wantNoMore(t *testing.T, what string, l []impl.Pipe, from int, to int, flow []int) {
	t.Helper()
	if grown, put, ok := checkFlow(t, l, from, to, flow); len(grown) != 0 || put != 0 || ok {
		t.Errorf("%s: AugmentOnce(%v, %d, %d, %v) = %v, %d, %v", what, l, from, to, flow, grown, put, ok)
	}
}

func TestFlowsKnown(t *testing.T) {
	row := []impl.Pipe{pipe(0, 1, 3), pipe(1, 2, 5), pipe(2, 3, 4)}
	wantFlow(t, row, 0, 3, []int{0, 0, 0}, 0)
	wantFlow(t, row, 0, 3, []int{3, 3, 3}, 3)
	wantFlow(t, row, 0, 2, []int{1, 1, 0}, 1)
	wantFlow(t, row, 1, 3, []int{0, 4, 4}, 4)
	wantFlow(t, row, 0, 7, []int{0, 0, 0}, 0)
	wantNoFlow(t, "it stays in 1", row, 0, 3, 2, 1, 1)
	wantNoFlow(t, "it comes from 1", row, 0, 3, 1, 2, 2)
	wantNoFlow(t, "it stays in 2, where it is not to go", row, 0, 3, 1, 1, 0)
	wantNoFlow(t, "it goes on from 2, where it is to stay", row, 0, 2, 1, 1, 1)
	wantNoFlow(t, "it comes to 0, where it is not from", row, 1, 3, 1, 1, 1)
	wantNoFlow(t, "between two others", row, 6, 7, 1, 1, 1)
	wantFlow(t, somePipes(), 0, 3, []int{3, 2, 1, 2, 3}, 5)
	wantFlow(t, somePipes(), 0, 3, []int{2, 0, 2, 0, 2}, 2)
	wantNoFlow(t, "more comes out", somePipes(), 0, 3, 3, 2, 0, 3, 3)
}

func TestFlowsRound(t *testing.T) {
	round := []impl.Pipe{pipe(1, 2, 5), pipe(2, 3, 5), pipe(3, 1, 5), pipe(0, 1, 4), pipe(3, 4, 4)}
	wantFlow(t, round, 0, 4, []int{5, 5, 5, 0, 0}, 0)
	wantFlow(t, round, 0, 4, []int{4, 4, 2, 2, 2}, 2)
	wantFlow(t, round, 1, 2, []int{5, 5, 5, 0, 0}, 0)
	wantFlow(t, round, 1, 3, []int{2, 2, 1, 0, 0}, 1)
	wantMore(t, round, 0, 4, []int{5, 5, 5, 0, 0}, 4, 5, 5, 1, 4, 4)
	// As much as flows back into from is not counted.
	back := []impl.Pipe{pipe(0, 1, 9), pipe(1, 0, 9)}
	wantFlow(t, back, 0, 1, []int{9, 9}, 0)
	wantFlow(t, back, 0, 1, []int{9, 2}, 7)
	wantFlow(t, back, 1, 0, []int{9, 2}, -7)
	wantFlow(t, back, 0, 1, []int{0, 9}, -9)
	wantFlow(t, back, 0, 2, []int{9, 9}, 0)
	wantNoFlow(t, "to another one", back, 0, 2, 9, 2)
}

func TestFlowOfNothing(t *testing.T) {
	for _, l := range [][]impl.Pipe{nil, {}} {
		for _, flow := range [][]int{nil, {}} {
			wantFlow(t, l, 0, 1, flow, 0)
			wantFlow(t, l, 7, 0, flow, 0)
			wantNoMore(t, "no pipes", l, 0, 1, flow)
			askOfFlow(t, l, 0, 1, flow)
		}
		wantNotAsSaid(t, "one number more than pipes", l, 0, 1, []int{0})
	}
	for a := range 8 {
		for b := range 8 {
			if a != b {
				wantFlow(t, somePipes(), a, b, make([]int, 5), 0)
			}
		}
	}
}

func TestAugmentKnown(t *testing.T) {
	row := []impl.Pipe{pipe(0, 1, 3), pipe(1, 2, 5), pipe(2, 3, 4)}
	wantMore(t, row, 0, 3, []int{0, 0, 0}, 3, 3, 3, 3)
	wantMore(t, row, 0, 3, []int{1, 1, 1}, 2, 3, 3, 3)
	wantMore(t, row, 1, 3, []int{0, 1, 1}, 3, 0, 4, 4)
	wantMore(t, row, 1, 2, []int{0, 0, 0}, 5, 0, 5, 0)
	wantNoMore(t, "the first is full", row, 0, 3, []int{3, 3, 3})
	wantNoMore(t, "the wrong way", row, 3, 0, []int{0, 0, 0})
	wantNoMore(t, "nowhere", row, 0, 7, []int{0, 0, 0})
	// The least room is in the middle, and at last.
	wantMore(t, []impl.Pipe{pipe(0, 1, 9), pipe(1, 2, 4), pipe(2, 3, 8)}, 0, 3, []int{2, 2, 2}, 2, 4, 4, 4)
	wantMore(t, []impl.Pipe{pipe(0, 1, 9), pipe(1, 2, 7), pipe(2, 3, 3)}, 0, 3, []int{2, 2, 2}, 1, 3, 3, 3)
	wantMore(t, somePipes(), 0, 3, make([]int, 5), 2, 2, 0, 0, 2, 0)
	wantMore(t, somePipes(), 0, 3, []int{2, 0, 0, 2, 0}, 2, 2, 2, 0, 2, 2)
	wantMore(t, somePipes(), 0, 3, []int{2, 2, 0, 2, 2}, 1, 3, 2, 1, 2, 3)
	wantNoMore(t, "all that gets through", somePipes(), 0, 3, []int{3, 2, 1, 2, 3})
}

func TestAugmentBack(t *testing.T) {
	// All that flows goes by the pipe across; the only row more goes back along it.
	l := []impl.Pipe{pipe(0, 1, 5), pipe(0, 2, 4), pipe(1, 2, 5), pipe(1, 3, 6), pipe(2, 3, 5)}
	wantMore(t, l, 0, 3, []int{5, 0, 5, 0, 5}, 4, 5, 4, 1, 4, 5)
	l[1].Cap = 9
	wantMore(t, l, 0, 3, []int{5, 0, 5, 0, 5}, 5, 5, 5, 0, 5, 5)
	wantMore(t, l, 0, 3, []int{5, 2, 3, 2, 5}, 3, 5, 5, 0, 5, 5)
	wantNoMore(t, "nothing is in it any more", l, 0, 3, []int{5, 5, 0, 5, 5})
	l[3].Cap = 2
	wantMore(t, l, 0, 3, []int{5, 0, 5, 0, 5}, 2, 5, 2, 3, 2, 5)
	// Back along a first pipe, along a last one, and along nothing else.
	wantMore(t, []impl.Pipe{pipe(1, 0, 5)}, 0, 1, []int{3}, 3, 0)
	wantNoMore(t, "nothing is in it", []impl.Pipe{pipe(1, 0, 5)}, 0, 1, []int{0})
	wantMore(t, []impl.Pipe{pipe(2, 1, 5), pipe(1, 0, 5)}, 0, 2, []int{5, 5}, 5, 0, 0)
	wantMore(t, []impl.Pipe{pipe(1, 0, 5), pipe(0, 1, 2)}, 0, 1, []int{3, 0}, 3, 0, 0)
	wantMore(t, []impl.Pipe{pipe(1, 0, 5), pipe(0, 1, 2)}, 0, 1, []int{0, 0}, 2, 0, 2)
	wantMore(t, []impl.Pipe{pipe(0, 1, 2), pipe(1, 0, 5)}, 0, 1, []int{2, 5}, 5, 2, 0)
}

func TestAugmentFirstOfAsShort(t *testing.T) {
	// Two pipes between the same nodes: the first with room.
	twice := []impl.Pipe{pipe(0, 1, 2), pipe(0, 1, 7)}
	wantMore(t, twice, 0, 1, []int{0, 0}, 2, 2, 0)
	wantMore(t, twice, 0, 1, []int{2, 0}, 7, 2, 7)
	// The earlier pipe out of the first node decides, not the lesser node, nor the wider row, nor the pipes behind it.
	l := []impl.Pipe{pipe(1, 3, 1), pipe(5, 3, 2), pipe(0, 5, 3), pipe(0, 1, 9)}
	wantMore(t, l, 0, 3, make([]int, 4), 2, 0, 2, 2, 0)
	l = []impl.Pipe{pipe(5, 3, 2), pipe(1, 3, 1), pipe(0, 1, 9), pipe(0, 5, 3)}
	wantMore(t, l, 0, 3, make([]int, 4), 1, 0, 1, 1, 0)
	// Nodes go in the order in which they were reached: 6 ahead of 2, so that 4 is reached from it.
	l = []impl.Pipe{pipe(0, 6, 5), pipe(0, 2, 5), pipe(2, 4, 5), pipe(6, 4, 4), pipe(4, 7, 9)}
	wantMore(t, l, 0, 7, make([]int, 5), 4, 4, 0, 0, 4, 4)
	// In the second round 5 is reached from the first node of the first, ahead of 1, though its own pipe is later.
	l = []impl.Pipe{pipe(3, 1, 5), pipe(0, 4, 5), pipe(0, 3, 5), pipe(4, 5, 5), pipe(1, 7, 5), pipe(5, 7, 5)}
	wantMore(t, l, 0, 7, make([]int, 6), 5, 0, 5, 0, 5, 0, 5)
	// Going back stands in the same order as going along.
	l = []impl.Pipe{pipe(1, 0, 4), pipe(0, 1, 4)}
	wantMore(t, l, 0, 1, []int{1, 0}, 1, 0, 0)
	l = []impl.Pipe{pipe(0, 1, 4), pipe(1, 0, 4)}
	wantMore(t, l, 0, 1, []int{0, 1}, 4, 4, 1)
	l = []impl.Pipe{pipe(2, 0, 4), pipe(0, 1, 4), pipe(1, 3, 4), pipe(2, 3, 4), pipe(3, 2, 4)}
	wantMore(t, l, 0, 3, []int{3, 0, 0, 0, 3}, 3, 0, 0, 0, 3, 3)
	l[3], l[4] = l[4], l[3]
	wantMore(t, l, 0, 3, []int{3, 0, 0, 3, 0}, 3, 0, 0, 0, 0, 0)
	// The shortest, though a longer one is of earlier pipes and wider.
	l = []impl.Pipe{pipe(0, 1, 9), pipe(1, 2, 9), pipe(2, 3, 9), pipe(0, 3, 1)}
	wantMore(t, l, 0, 3, make([]int, 4), 1, 0, 0, 0, 1)
}

func TestFlowsWrong(t *testing.T) {
	l := somePipes()
	full := []int{3, 2, 1, 2, 3}
	for _, flow := range [][]int{nil, {}, full[:4], append(slices.Clone(full), 0), append(slices.Clone(full), -1), make([]int, 4), make([]int, 6), make([]int, 5000)} {
		wantNotAsSaid(t, "not as many numbers", l, 0, 3, flow)
	}
	wantNoFlow(t, "below 0", l, 0, 3, -1, 0, -1, 0, -1)
	wantNoFlow(t, "below 0 on the way", l, 0, 3, 1, 1, -1, 2, 0)
	wantNoFlow(t, "above its Cap", l, 0, 3, 3, 0, 0, 3, 0)
	wantNoFlow(t, "the first above its Cap", l, 0, 3, 4, 0, 2, 2, 2)
	wantNoFlow(t, "above a Cap of 0", []impl.Pipe{pipe(0, 1, 0)}, 0, 1, 1)
	wantNoFlow(t, "above a Cap of 100", []impl.Pipe{pipe(0, 1, 100)}, 0, 1, 101)
	wantNoFlow(t, "far above", []impl.Pipe{pipe(0, 1, 100)}, 0, 1, math.MaxInt)
	wantNoFlow(t, "far below", []impl.Pipe{pipe(0, 1, 100)}, 0, 1, math.MinInt)
	// Sums that wrap round are as much as nothing.
	wantNoFlow(t, "twice the least of all", []impl.Pipe{pipe(0, 1, 100), pipe(0, 1, 100)}, 0, 2, math.MinInt, math.MinInt)
	wantNoFlow(t, "most and least of all", []impl.Pipe{pipe(0, 1, 100), pipe(0, 1, 100), pipe(0, 1, 100)}, 0, 2, math.MaxInt, math.MinInt, 1)
	askOfFlow(t, l, 0, 3, full)
	askOfFlow(t, l, 0, 3, make([]int, 5))
}

func TestFlowsBetweenWrongNodes(t *testing.T) {
	l, flow := somePipes(), []int{3, 2, 1, 2, 3}
	for _, bad := range []int{math.MinInt, -8, -1, 8, 9, math.MaxInt} {
		for _, other := range []int{0, 3, 7, bad} {
			wantNotAsSaid(t, "no node", l, bad, other, flow)
			wantNotAsSaid(t, "no node", l, other, bad, flow)
			wantNotAsSaid(t, "no node, nothing", l, bad, other, make([]int, 5))
			wantNotAsSaid(t, "no node, nothing", l, other, bad, make([]int, 5))
			wantNotAsSaid(t, "no node, no pipes", nil, bad, other, nil)
		}
	}
	for node := range 8 {
		wantNotAsSaid(t, "alike", l, node, node, flow)
		wantNotAsSaid(t, "alike, nothing", l, node, node, make([]int, 5))
		wantNotAsSaid(t, "alike, no pipes", nil, node, node, nil)
	}
}

// TestEveryFlow asks everything at all numbers for few and small pipes.
func TestEveryFlow(t *testing.T) {
	for _, l := range [][]impl.Pipe{
		{pipe(0, 1, 2), pipe(0, 2, 1), pipe(1, 2, 2), pipe(1, 3, 1), pipe(2, 3, 2)},
		{pipe(0, 1, 1), pipe(1, 0, 2), pipe(1, 3, 2), pipe(3, 1, 1), pipe(0, 3, 1)},
		{pipe(2, 3, 2), pipe(3, 2, 2), pipe(0, 2, 1), pipe(0, 2, 2), pipe(2, 0, 1)},
		{pipe(1, 2, 2), pipe(2, 3, 2), pipe(3, 1, 2), pipe(0, 1, 0), pipe(0, 3, 2)},
	} {
		flow := make([]int, 5)
		for code := range 5 * 5 * 5 * 5 * 5 {
			for k := range flow {
				flow[k], code = code%5-1, code/5
			}
			checkFlow(t, l, 0, 3, flow)
			checkFlow(t, l, 3, 0, flow)
			checkFlow(t, l, 1, 2, flow)
		}
	}
}

// someFlow puts on what it can between nodes at will and back again, so that much goes round.
func someFlow(r *rand.Rand, l []impl.Pipe, from int, to int) []int {
	flow := make([]int, len(l))
	for range r.Intn(12) {
		a, b := from, to
		if r.Intn(3) == 0 {
			a, b = to, from
		}
		row, node := []int{}, a
		for len(row) < 12 && node != b {
			k := r.Intn(len(l))
			if l[k].From == node && flow[k] < l[k].Cap && !slices.Contains(row, k) {
				row, node = append(row, k), l[k].To
			} else if r.Intn(20) == 0 {
				break
			}
		}
		if node == b {
			for _, k := range row {
				flow[k]++
			}
		}
	}
	return flow
}

func TestFlowsMixed(t *testing.T) {
	r := rand.New(rand.NewSource(808))
	for range 1500 {
		nodes := 2 + r.Intn(7)
		l := anyPipes(r, 1+r.Intn(20), nodes, []int{0, 1, 2, 5, 100}[r.Intn(5)])
		from := r.Intn(nodes)
		to := (from + 1 + r.Intn(nodes-1)) % nodes
		flow := someFlow(r, l, from, to)
		if !plainFlow(l, from, to, flow) {
			t.Fatal(l, from, to, flow)
		}
		checkFlow(t, l, from, to, flow)
		flow[r.Intn(len(flow))] += r.Intn(5) - 2
		checkFlow(t, l, from, to, flow)
		checkFlow(t, l, r.Intn(10)-1, r.Intn(10)-1, flow)
	}
}
