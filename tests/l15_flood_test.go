package tests

import (
	"math"
	"math/rand"
	"slices"
	"testing"

	"loop.example/g00315/impl"
)

// plainFlood lets all time pass, from at up to until: at each time it is handed on till nobody has it who had it not.
func plainFlood(l []impl.Contact, from int, at int, until int) []int {
	has := slices.Repeat([]int{math.MaxInt}, 8) // since when
	has[from] = at
	for now := at; now <= until; now++ {
		for changed := true; changed; {
			changed = false
			for _, c := range l {
				if now >= c.Start && now < c.End && has[c.From] <= now && now+c.Delay < has[c.To] {
					has[c.To], changed = now+c.Delay, true
				}
			}
		}
	}
	var nodes []int
	for node, since := range has {
		if since <= until {
			nodes = append(nodes, node)
		}
	}
	return nodes
}

// checkFlood asks FloodUntil, as said or not, and holds it against EarliestFrom, node by node.
func checkFlood(t *testing.T, l []impl.Contact, from int, at int, until int) []int {
	t.Helper()
	plan := slices.Clone(l)
	can := plainPlan(l) && plainNode(from) && plainWhen(at) && plainWhen(until)
	var want []int
	if can {
		want = plainFlood(l, from, at, until)
	}
	nodes, ok := impl.FloodUntil(l, from, at, until)
	if !slices.Equal(nodes, want) || ok != can {
		t.Fatalf("FloodUntil(%v, %d, %d, %d) = %v, %v, not %v, %v", l, from, at, until, nodes, ok, want, can)
	}
	times, _ := impl.EarliestFrom(l, from, at)
	for node, when := range times {
		if by := when >= 0 && when <= until; ok && by != slices.Contains(nodes, node) {
			t.Fatalf("FloodUntil(%v, %d, %d, %d) = %v, where %d is reached at %d", l, from, at, until, nodes, node, when)
		}
	}
	if !slices.Equal(l, plan) {
		t.Fatalf("written into: %v, once %v", l, plan)
	}
	return nodes
}

func wantFlood(t *testing.T, l []impl.Contact, from int, at int, until int, want ...int) {
	t.Helper()
	checkFlood(t, l, from, at, until)
	if nodes, ok := impl.FloodUntil(l, from, at, until); !slices.Equal(nodes, want) || !ok {
		t.Errorf("FloodUntil(%v, %d, %d, %d) = %v, %v, not %v", l, from, at, until, nodes, ok, want)
	}
}

func wantNoFlood(t *testing.T, what string, l []impl.Contact, from int, at int, until int) {
	t.Helper()
	checkFlood(t, l, from, at, until)
	if nodes, ok := impl.FloodUntil(l, from, at, until); len(nodes) != 0 || ok {
		t.Errorf("%s: FloodUntil(%v, %d, %d, %d) = %v, %v", what, l, from, at, until, nodes, ok)
	}
}

func TestFloodKnown(t *testing.T) {
	l := someLate()
	wantFlood(t, l, 0, 0, 6, 0)
	wantFlood(t, l, 0, 0, 7, 0, 1)
	wantFlood(t, l, 0, 0, 20, 0, 1)
	wantFlood(t, l, 0, 0, 21, 0, 1, 2)
	wantFlood(t, l, 0, 0, 120, 0, 1, 2)
	wantFlood(t, l, 0, 0, 121, 0, 1, 2, 3)
	wantFlood(t, l, 0, 0, 1000, 0, 1, 2, 3)
	wantFlood(t, l, 0, 9, 10, 0)
	wantFlood(t, l, 0, 9, 11, 0, 1)
	wantFlood(t, l, 0, 10, 39, 0)
	wantFlood(t, l, 0, 10, 40, 0, 2)
	wantFlood(t, l, 0, 50, 1000, 0)
	wantFlood(t, l, 2, 0, 14, 2)
	wantFlood(t, l, 2, 0, 15, 0, 2)
	wantFlood(t, l, 2, 0, 100, 0, 2, 3, 4)
	wantFlood(t, l, 2, 1, 1000, 0, 2, 3)
	wantFlood(t, l, 4, 999, 1000, 4)
	wantFlood(t, l, 7, 0, 1000, 7)
}

// TestFloodOneBehindTheOther hands it on along a row, whichever way the plan tells it.
func TestFloodOneBehindTheOther(t *testing.T) {
	var row, atOnce []impl.Contact
	for node := range 7 {
		row = append(row, meets(node, node+1, 10*node, 10*node+10, 3))
		atOnce = append(atOnce, meets(node, node+1, 5, 6, 0))
	}
	for until := range 80 {
		var want, all []int
		for node := range 8 {
			if node == 0 || until >= 10*(node-1)+3 {
				want = append(want, node)
			}
			if node == 0 || until >= 5 {
				all = append(all, node)
			}
		}
		wantFlood(t, row, 0, 0, until, want...)
		wantFlood(t, backwardsPlan(row), 0, 0, until, want...)
		wantFlood(t, atOnce, 0, 0, until, all...)
		wantFlood(t, backwardsPlan(atOnce), 0, 0, until, all...)
	}
	wantFlood(t, row, 0, 9, 12, 0, 1)
	wantFlood(t, row, 0, 9, 1000, 0, 1, 2, 3, 4, 5, 6, 7)
	wantFlood(t, row, 0, 10, 1000, 0)
	wantFlood(t, row, 7, 0, 1000, 7)
	wantFlood(t, atOnce, 0, 5, 5, 0, 1, 2, 3, 4, 5, 6, 7)
	wantFlood(t, atOnce, 3, 5, 5, 3, 4, 5, 6, 7)
	wantFlood(t, atOnce, 0, 6, 1000, 0)
}

// TestFloodAtEachOpenTime comes to a contact while it is open, at any of its times.
func TestFloodAtEachOpenTime(t *testing.T) {
	l := []impl.Contact{meets(0, 1, 20, 30, 4), meets(1, 2, 22, 26, 1), meets(1, 3, 27, 40, 2)}
	for at := range 40 {
		left := max(at, 20)
		if at >= 30 {
			wantFlood(t, l, 0, at, 1000, 0)
			continue
		}
		wantFlood(t, l, 0, at, left+3, 0)
		wantFlood(t, l, 0, at, left+4, 0, 1)
		if left+4 < 26 {
			wantFlood(t, l, 0, at, left+5, 0, 1, 2)
			wantFlood(t, l, 0, at, 28, 0, 1, 2)
			wantFlood(t, l, 0, at, 29, 0, 1, 2, 3)
		} else {
			wantFlood(t, l, 0, at, max(left+4, 27)+1, 0, 1)
			wantFlood(t, l, 0, at, max(left+4, 27)+2, 0, 1, 3)
			wantFlood(t, l, 0, at, 1000, 0, 1, 3)
		}
	}
}

// TestFloodByItsDelay is there just at until, and not where it is one more.
func TestFloodByItsDelay(t *testing.T) {
	for _, delay := range []int{0, 1, 2, 50, 99, 100} {
		l := []impl.Contact{meets(6, 2, 300, 400, delay)}
		for _, at := range []int{0, 299, 300, 301, 350, 399} {
			there := max(at, 300) + delay
			wantFlood(t, l, 6, at, there, 2, 6)
			wantFlood(t, l, 6, at, there+1, 2, 6)
			if there > at {
				wantFlood(t, l, 6, at, there-1, 6)
			} else {
				wantFlood(t, l, 6, at, there-1)
			}
		}
		wantFlood(t, l, 6, 400, 1000, 6)
		late := []impl.Contact{meets(0, 1, 1000-delay-1, 1000, delay)}
		wantFlood(t, late, 0, 0, 1000, 0, 1)
		wantFlood(t, late, 0, 0, 999, 0, 1)
		wantFlood(t, late, 0, 1000-delay-1, 998, []int{0}[:min(delay, 1)]...)
	}
	wantFlood(t, []impl.Contact{meets(0, 1, 900, 901, 100)}, 0, 0, 999, 0)
	wantFlood(t, []impl.Contact{meets(0, 1, 900, 901, 100)}, 0, 0, 1000, 0, 1)
	wantFlood(t, []impl.Contact{meets(0, 1, 901, 902, 100)}, 0, 0, 1000, 0)
}

func TestFloodTimes(t *testing.T) {
	l := []impl.Contact{meets(3, 4, 0, 1000, 0), meets(4, 5, 0, 1000, 1)}
	for _, at := range []int{0, 1, 2, 500, 998, 999} {
		wantFlood(t, l, 3, at, at, 3, 4)
		wantFlood(t, l, 3, at, at+1, 3, 4, 5)
		for _, until := range []int{0, 1, at - 2, at - 1} {
			if until >= 0 && until < at {
				wantFlood(t, l, 3, at, until)
			}
		}
	}
	wantFlood(t, l, 3, 0, 0, 3, 4)
	wantFlood(t, l, 3, 0, 1000, 3, 4, 5)
	wantFlood(t, l, 3, 1000, 1000, 3)
	wantFlood(t, l, 3, 1000, 999)
	wantFlood(t, l, 3, 1000, 0)
	wantFlood(t, l, 3, 1, 0)
}

func TestFloodWithoutContacts(t *testing.T) {
	for _, l := range [][]impl.Contact{nil, {}} {
		for node := range 8 {
			for _, at := range []int{0, 1, 77, 999, 1000} {
				for _, until := range []int{0, 1, 76, 77, 78, 999, 1000} {
					if until < at {
						wantFlood(t, l, node, at, until)
					} else {
						wantFlood(t, l, node, at, until, node)
					}
				}
			}
		}
	}
}

func TestFloodOfMaxContacts(t *testing.T) {
	l := slices.Repeat([]impl.Contact{meets(0, 1, 0, 10, 5), meets(1, 7, 0, 10, 5)}, 10)
	wantFlood(t, l, 0, 0, 4, 0)
	wantFlood(t, l, 0, 0, 5, 0, 1)
	wantFlood(t, l, 0, 0, 10, 0, 1, 7)
	wantNoFlood(t, "one more than MaxContacts", append(l, meets(0, 1, 0, 10, 5)), 0, 0, 10)
	var all []impl.Contact
	for node := 1; node < 8; node++ {
		all = append(all, meets(0, node, 10*node, 10*node+1, 0), meets(node, 0, 0, 1000, 0))
	}
	for until := range 80 {
		want := []int{0, 1, 2, 3, 4, 5, 6, 7}[:1+until/10]
		wantFlood(t, all, 0, 0, until, want...)
	}
	for node := 1; node < 8; node++ {
		wantFlood(t, all, node, 75, 1000, 0, node)
	}
}

func TestFloodWrong(t *testing.T) {
	for what, c := range wrongContacts() {
		for _, l := range [][]impl.Contact{{c}, append([]impl.Contact{c}, someLate()...), append(someLate(), c)} {
			wantNoFlood(t, what, l, 0, 0, 1000)
			wantNoFlood(t, what, l, 1, 5, 4)
			wantNoFlood(t, what, l, -1, 0, 10)
		}
	}
	l := someLate()
	for _, node := range []int{math.MinInt, -8, -1, 8, 9, 256, 1 << 32, math.MaxInt} {
		wantNoFlood(t, "no node", l, node, 0, 1000)
		wantNoFlood(t, "no node", nil, node, 0, 0)
		wantNoFlood(t, "no node, and until below at", nil, node, 5, 0)
	}
	for _, wrong := range []int{math.MinInt, -1000, -1, 1001, 2000, 1 << 32, math.MaxInt} {
		for _, right := range []int{0, 1, 500, 1000} {
			wantNoFlood(t, "at", l, 0, wrong, right)
			wantNoFlood(t, "until", l, 0, right, wrong)
			wantNoFlood(t, "until", nil, 7, right, wrong)
		}
		wantNoFlood(t, "both", l, 0, wrong, wrong)
	}
}

// Promise 15: word that spreads is just where it can be by then; all rows of contacts are gone over.
func TestWordIsWhereItCanBe(t *testing.T) {
	r := rand.New(rand.NewSource(15))
	spread := 0
	for range 1500 {
		l := somePlan(r, r.Intn(7), 2+r.Intn(3), []int{4, 12, 40}[r.Intn(3)])
		from, at := r.Intn(4), r.Intn(6)
		times := plainEachRow(l, from, at)
		for until := range 50 {
			var want []int
			for node, when := range times {
				if when >= 0 && when <= until {
					want = append(want, node)
				}
			}
			wantFlood(t, l, from, at, until, want...)
			if len(want) > 2 {
				spread++
			}
		}
	}
	if spread < 4000 {
		t.Error("it spread too seldom:", spread)
	}
}

// TestWhoHasItKeepsIt asks one time after another: nobody has it no more, and nobody comes who was not told to.
func TestWhoHasItKeepsIt(t *testing.T) {
	r := rand.New(rand.NewSource(155))
	for range 60 {
		l := somePlan(r, 1+r.Intn(20), 2+r.Intn(7), []int{50, 300, 1000}[r.Intn(3)])
		from, at := r.Intn(8), r.Intn(100)
		times, _ := impl.EarliestFrom(l, from, at)
		many := 0
		for until := range 1001 {
			nodes, ok := impl.FloodUntil(l, from, at, until)
			come := 0
			for _, when := range times {
				if when == until {
					come++
				}
			}
			if many += come; len(nodes) != many || !ok || !plainRising(nodes, 8) {
				t.Fatalf("FloodUntil(%v, %d, %d, %d) = %v, %v, not %d", l, from, at, until, nodes, ok, many)
			}
		}
	}
}

func TestFloodMixed(t *testing.T) {
	r := rand.New(rand.NewSource(1515))
	many := [9]int{}
	for range 8000 {
		l := somePlan(r, r.Intn(21), 2+r.Intn(7), []int{3, 20, 200, 1000}[r.Intn(4)])
		if r.Intn(2) == 0 { // who comes late is still let over
			for k := range l {
				l[k].End = 1000
			}
		}
		if r.Intn(10) == 0 && len(l) > 0 {
			l[r.Intn(len(l))] = meets(r.Intn(10)-1, r.Intn(10)-1, r.Intn(3)-1, r.Intn(1003), r.Intn(103)-1)
		}
		at := r.Intn([]int{3, 30, 1002}[r.Intn(3)])
		nodes := checkFlood(t, l, r.Intn(10)-1, at, at+r.Intn([]int{3, 30, 300}[r.Intn(3)])-1)
		many[len(nodes)]++
	}
	if slices.Min(many[:]) < 10 {
		t.Error(many)
	}
	for range 100 {
		l := somePlan(r, 1+r.Intn(8), 2+r.Intn(3), 30)
		for _, from := range edgeNodes() {
			for range 40 {
				times := edgeTimes(l)
				checkFlood(t, l, from, times[r.Intn(len(times))], times[r.Intn(len(times))])
			}
		}
	}
}

func TestFloodBehindItsLength(t *testing.T) {
	for _, behind := range []impl.Contact{meets(0, 7, 0, 1000, 0), meets(0, 0, -1, 5000, 200)} {
		all := append(someLate(), behind)
		was := slices.Clone(all)
		wantFlood(t, all[:8], 0, 0, 21, 0, 1, 2)
		wantFlood(t, all[:8], 7, 0, 21, 7)
		wantFlood(t, all[:0], 0, 0, 1000, 0)
		if !slices.Equal(all, was) {
			t.Errorf("written behind: %v", all)
		}
	}
}

func TestFloodNewMemory(t *testing.T) {
	l := someLate()
	for range 3 { // what was spoilt in a round isn't there in the next
		first, _ := impl.FloodUntil(l, 0, 0, 500)
		second, _ := impl.FloodUntil(l, 0, 0, 500)
		first = first[:cap(first)]
		for i := range first {
			first[i] = -7
		}
		if !slices.Equal(second, []int{0, 1, 2, 3}) || !slices.Equal(l, someLate()) {
			t.Errorf("%v, %v", second, l)
		}
	}
}
