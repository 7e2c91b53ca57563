package tests

import (
	"math"
	"math/rand"
	"slices"
	"testing"

	"loop.example/g00315/impl"
)

// plainInTime goes by due times and marks who goes, looking at the longest from the last one back.
func plainInTime(l []impl.Job) []int {
	order := plainByDue(l)
	gone := make([]bool, len(l))
	for i, job := range order {
		end, longest := 0, job
		for k := i; k >= 0; k-- {
			if gone[order[k]] {
				continue
			}
			end += l[order[k]].Long
			if l[order[k]].Long > l[longest].Long {
				longest = order[k]
			}
		}
		if end > l[job].Due {
			gone[longest] = true
		}
	}
	var in []int
	for job := range l {
		if !gone[job] {
			in = append(in, job)
		}
	}
	return in
}

// plainMostInTime tries all choices, done by due times: how many are in time together at most.
func plainMostInTime(l []impl.Job) int {
	most, order := 0, plainByDue(l)
	for bits := range 1 << len(l) {
		end, in := 0, true
		for _, job := range order {
			if bits>>job&1 == 1 {
				end += l[job].Long
				in = in && end <= l[job].Due
			}
		}
		if in {
			most = max(most, len(chosen(bits)))
		}
	}
	return most
}

// plainOrderFor looks for the jobs of each kind one after the other.
func plainOrderFor(l []impl.Job, some []int) []int {
	var order []int
	for _, is := range []bool{true, false} {
		for _, job := range plainByDue(l) {
			if slices.Contains(some, job) == is {
				order = append(order, job)
			}
		}
	}
	return order
}

// checkOrderFor asks OrderFor, as said or not.
func checkOrderFor(t *testing.T, l []impl.Job, some []int) []int {
	t.Helper()
	jobs, row := slices.Clone(l), slices.Clone(some)
	can := plainGoodJobs(l) && plainRising(some, len(l))
	var want []int
	if can {
		want = plainOrderFor(l, some)
	}
	order, ok := impl.OrderFor(l, some)
	if !slices.Equal(order, want) || ok != can {
		t.Fatalf("OrderFor(%v, %v) = %v, %v, not %v, %v", l, some, order, ok, want, can)
	}
	if can && !impl.IsJobOrder(l, order) {
		t.Fatalf("OrderFor(%v, %v) = %v: no order", l, some, order)
	}
	if !slices.Equal(l, jobs) || !slices.Equal(some, row) {
		t.Fatalf("written into: %v, %v, once %v, %v", l, some, jobs, row)
	}
	return order
}

// checkFewest asks FewestLate, as said or not.
func checkFewest(t *testing.T, l []impl.Job) []int {
	t.Helper()
	was := slices.Clone(l)
	can := plainGoodJobs(l)
	var want []int
	if can {
		want = plainInTime(l)
	}
	in, ok := impl.FewestLate(l)
	if !slices.Equal(in, want) || ok != can {
		t.Fatalf("FewestLate(%v) = %v, %v, not %v, %v", l, in, ok, want, can)
	}
	if can {
		checkInTime(t, l, in)
		if most := plainMostInTime(l); len(in) != most {
			t.Fatalf("FewestLate(%v) = %v, %d can be in time", l, in, most)
		}
	}
	if !slices.Equal(l, was) {
		t.Fatalf("written into: %v, once %v", l, was)
	}
	return in
}

// checkInTime asks that just these jobs are in time in the order that OrderFor tells of them.
func checkInTime(t *testing.T, l []impl.Job, in []int) {
	t.Helper()
	order := checkOrderFor(t, l, in)
	for job, j := range l {
		if inTime := plainEnd(l, order, job) <= j.Due; inTime != slices.Contains(in, job) {
			t.Fatalf("FewestLate(%v) = %v: in %v job %d is in time: %v", l, in, order, job, inTime)
		}
	}
	if many, ok := impl.LateIn(l, order); many != len(l)-len(in) || !ok {
		t.Fatalf("FewestLate(%v) = %v, LateIn of %v tells %d, %v", l, in, order, many, ok)
	}
}

// wantFewestLate names the jobs that are in time.
func wantFewestLate(t *testing.T, l []impl.Job, want ...int) {
	t.Helper()
	checkFewest(t, l)
	if in, ok := impl.FewestLate(l); !slices.Equal(in, want) || !ok {
		t.Errorf("FewestLate(%v) = %v, %v, not %v", l, in, ok, want)
	}
}

func wantOrderFor(t *testing.T, l []impl.Job, some []int, want ...int) {
	t.Helper()
	checkOrderFor(t, l, some)
	if order, ok := impl.OrderFor(l, some); !slices.Equal(order, want) || !ok {
		t.Errorf("OrderFor(%v, %v) = %v, %v, not %v", l, some, order, ok, want)
	}
}

func wantNoOrderFor(t *testing.T, what string, l []impl.Job, some []int) {
	t.Helper()
	checkOrderFor(t, l, some)
	if order, ok := impl.OrderFor(l, some); len(order) != 0 || ok {
		t.Errorf("%s: OrderFor(%v, %v) = %v, %v", what, l, some, order, ok)
	}
}

func TestFewestLateKnown(t *testing.T) {
	wantFewestLate(t, someJobs(), 1, 2)
	wantFewestLate(t, jobsOf("6:8 4:9 7:15 8:20 3:21 5:22"), 1, 2, 4, 5)
	// A long one makes way for several short ones.
	wantFewestLate(t, jobsOf("9:9 1:10 1:10 1:10"), 1, 2, 3)
	wantFewestLate(t, jobsOf("9:9 1:10"), 0, 1)
	wantFewestLate(t, jobsOf("5:5 5:6 1:7 1:7"), 0, 2, 3)
	// The one that goes is the longest, not the one that is late.
	wantFewestLate(t, jobsOf("8:10 3:10"), 1)
	wantFewestLate(t, jobsOf("3:10 8:10"), 0)
	wantFewestLate(t, jobsOf("2:2 8:10 3:12"), 0, 2)
	wantFewestLate(t, jobsOf("2:2 3:12 8:10"), 0, 1)
	// One after the other goes, the one just taken or one ahead of it.
	wantFewestLate(t, jobsOf("2:1 2:1 2:1"))
	wantFewestLate(t, jobsOf("3:2 3:2 1:2"), 2)
	// Rising numbers, whatever the order by Due.
	wantFewestLate(t, jobsOf("1:30 1:20 1:10"), 0, 1, 2)
	wantFewestLate(t, jobsOf("1:30 50:20 1:10 1:9"), 0, 2, 3)
}

func TestOfSeveralLongestTheLastTaken(t *testing.T) {
	wantFewestLate(t, jobsOf("3:5 3:5"), 0)
	wantFewestLate(t, jobsOf("3:5 3:5 3:5"), 0)
	wantFewestLate(t, jobsOf("3:6 3:6 3:6"), 0, 1)
	// The last taken by Due, not by number.
	wantFewestLate(t, jobsOf("3:5 3:4"), 1)
	wantFewestLate(t, jobsOf("3:5 3:3 3:4"), 1)
	wantFewestLate(t, jobsOf("4:6 4:5 4:4"), 2)
	// The last of the longest ones goes, a shorter one that was taken last stays.
	wantFewestLate(t, jobsOf("3:6 3:6 1:6"), 0, 2)
	wantFewestLate(t, jobsOf("1:6 3:6 3:6"), 0, 1)
	wantFewestLate(t, jobsOf("1:7 3:6 3:5"), 0, 1, 2)
	wantFewestLate(t, jobsOf("1:6 3:5 3:4"), 0, 2)
	wantFewestLate(t, jobsOf("2:9 4:7 4:6 3:8"), 0, 2, 3)
	// The one that is taken last is itself as long as those ahead of it.
	wantFewestLate(t, jobsOf("4:4 2:6 4:9"), 0, 1)
	wantFewestLate(t, jobsOf("4:4 2:6 4:10"), 0, 1, 2)
	wantFewestLate(t, slices.Repeat(jobsOf("10:50"), 10), 0, 1, 2, 3, 4)
}

func TestAllInTimeAndNone(t *testing.T) {
	wantFewestLate(t, jobsOf("4:4"), 0)
	wantFewestLate(t, jobsOf("4:3"))
	wantFewestLate(t, jobsOf("1:1"), 0)
	wantFewestLate(t, jobsOf("100:1000"), 0)
	wantFewestLate(t, jobsOf("100:99"))
	wantFewestLate(t, jobsOf("100:100"), 0)
	// Just when each is due.
	wantFewestLate(t, jobsOf("4:4 3:7 2:9"), 0, 1, 2)
	wantFewestLate(t, jobsOf("2:9 3:7 4:4"), 0, 1, 2)
	wantFewestLate(t, jobsOf("4:4 3:7 2:8"), 1, 2)
	// Longer than its Due: nobody can do it in time.
	wantFewestLate(t, jobsOf("100:1 1:1"), 1)
	wantFewestLate(t, jobsOf("1:1 100:99 1:2"), 0, 2)
	wantFewestLate(t, jobsOf("5:4 6:5 7:6"))
	// Nobody makes way for it.
	wantFewestLate(t, jobsOf("2:2 2:4 1:5 9:8"), 0, 1, 2)
	all := chosen(1<<10 - 1)
	wantFewestLate(t, slices.Repeat(jobsOf("100:1000"), 10), all...)
	wantFewestLate(t, slices.Repeat(jobsOf("100:999"), 10), all[:9]...)
	wantFewestLate(t, slices.Repeat(jobsOf("100:99"), 10))
	wantFewestLate(t, jobsOf("1:10 1:9 1:8 1:7 1:6 1:5 1:4 1:3 1:2 1:1"), all...)
}

func TestOrderForKnown(t *testing.T) {
	l := someJobs()
	wantOrderFor(t, l, []int{1, 2}, 1, 2, 0, 3)
	wantOrderFor(t, l, []int{0, 3}, 0, 3, 1, 2)
	wantOrderFor(t, l, []int{2}, 2, 1, 0, 3)
	wantOrderFor(t, l, []int{1}, 1, 0, 3, 2)
	wantOrderFor(t, l, []int{0, 1, 2}, 1, 0, 2, 3)
	// Of none and of all.
	wantOrderFor(t, l, nil, 1, 0, 3, 2)
	wantOrderFor(t, l, []int{}, 1, 0, 3, 2)
	wantOrderFor(t, l, []int{0, 1, 2, 3}, 1, 0, 3, 2)
	wantOrderFor(t, jobsOf("5:5"), nil, 0)
	wantOrderFor(t, jobsOf("5:5"), []int{0}, 0)
	// Of the same Due the lower number is first, on both sides.
	same := slices.Repeat(jobsOf("1:5"), 6)
	wantOrderFor(t, same, []int{1, 3, 4}, 1, 3, 4, 0, 2, 5)
	wantOrderFor(t, same, []int{5}, 5, 0, 1, 2, 3, 4)
	wantOrderFor(t, same, []int{0, 1, 2, 3, 4, 5}, 0, 1, 2, 3, 4, 5)
	// The first number and the last one of MaxJobs.
	l = jobsOf("1:10 1:9 1:8 1:7 1:6 1:5 1:4 1:3 1:2 1:1")
	wantOrderFor(t, l, []int{0, 9}, 9, 0, 8, 7, 6, 5, 4, 3, 2, 1)
	wantOrderFor(t, l, chosen(1<<10-1), 9, 8, 7, 6, 5, 4, 3, 2, 1, 0)
}

func TestOrderForEveryChoice(t *testing.T) {
	for _, l := range [][]impl.Job{someJobs(), jobsOf("3:3 1:1 2:3 1:1 5:2"), jobsOf("6:8 4:9 7:15 8:20 3:21 5:22 1:9 1:8 2:15 100:1")} {
		for bits := range 1 << len(l) {
			checkOrderFor(t, l, chosen(bits))
		}
		wantOrderFor(t, l, nil, checkByDue(t, l)...)
		wantOrderFor(t, l, chosen(1<<len(l)-1), checkByDue(t, l)...)
	}
}

func TestOrderForWrong(t *testing.T) {
	for what, some := range map[string][]int{
		"falling": {1, 0}, "falling at last": {0, 2, 1}, "twice": {1, 1}, "twice at last": {0, 1, 1}, "twice, apart": {0, 1, 0},
		"below 0": {-1}, "below 0 at first": {-1, 0, 1}, "of no job": {4}, "of no job at last": {0, 1, 2, 3, 4}, "beyond": {0, 9},
		"far": {0, math.MaxInt}, "far below": {math.MinInt, 0}, "by Due": {1, 0, 3, 2}, "all twice": {0, 1, 2, 3, 0, 1, 2, 3}, "many": make([]int, 5000),
	} {
		wantNoOrderFor(t, what, someJobs(), some)
	}
	// What is of no job is of one, where there is one more.
	l := jobsOf("1:1 1:2 1:3")
	wantNoOrderFor(t, "of no job", l, []int{3})
	wantOrderFor(t, append(l, jobsOf("1:4")...), []int{3}, 3, 0, 1, 2)
}

// TestFewestLateMixed has up to MaxJobs, about as long as there is time for half of them.
func TestFewestLateMixed(t *testing.T) {
	r := rand.New(rand.NewSource(1201))
	late, none, same := 0, 0, 0
	for range 4000 {
		many, long := 1+r.Intn(10), 1+r.Intn(100)
		if r.Intn(2) == 0 {
			long = 1 + r.Intn(4)
		}
		l := anyJobs(r, many, long, min(1+r.Intn(2*many*long), 1000))
		if in := checkFewest(t, l); len(in) < many {
			late++
		} else {
			none++
		}
		if slices.IndexFunc(l[1:], func(j impl.Job) bool { return j.Long == l[0].Long }) >= 0 {
			same++
		}
	}
	if late < 1000 || none < 300 || same < 1000 {
		t.Errorf("%d with some late, %d with none, %d with some as long", late, none, same)
	}
}

func TestJobsBehindTheirLength(t *testing.T) {
	for _, behind := range []impl.Job{{Long: 1, Due: 1}, {Long: 1, Due: 1000}, {Long: -5, Due: 2000}} {
		all := append(someJobs(), behind, behind)
		was := slices.Clone(all)
		order, some := []int{1, 0, 3, 2, 4, 0, -9}, []int{1, 2, 3, 3, 99}
		wantByDue(t, all[:4], 1, 0, 3, 2)
		wantByDue(t, all[:0])
		wantFewestLate(t, all[:4], 1, 2)
		wantLate(t, all[:4], 5, 3, order[:4]...)
		wantNoOrder(t, "one left out", all[:4], order[:3])
		wantOrderFor(t, all[:4], some[:2], 1, 2, 0, 3)
		wantOrderFor(t, all[:4], some[:0], 1, 0, 3, 2)
		if !slices.Equal(all, was) || !slices.Equal(order, []int{1, 0, 3, 2, 4, 0, -9}) || !slices.Equal(some, []int{1, 2, 3, 3, 99}) {
			t.Errorf("written behind: %v, %v, %v", all, order, some)
		}
	}
}

func TestJobsNewMemory(t *testing.T) {
	l := append(make([]impl.Job, 0, 40), someJobs()...)
	some := append(make([]int, 0, 40), 0, 1, 2, 3)
	spoil := func(answer []int) {
		answer = answer[:cap(answer)]
		for i := range answer {
			answer[i] = -7
		}
	}
	for range 2 { // what was spoilt in the first round isn't there in the second
		order, _ := impl.ByDue(l)
		in, _ := impl.FewestLate(l)
		row, _ := impl.OrderFor(l, some)
		inOrder := jobsOf("1:1 1:2 1:3 1:4")
		same, _ := impl.OrderFor(inOrder, some)
		if !slices.Equal(order, []int{1, 0, 3, 2}) || !slices.Equal(in, []int{1, 2}) || !slices.Equal(row, []int{1, 0, 3, 2}) || !slices.Equal(same, some) {
			t.Errorf("%v, %v, %v, %v", order, in, row, same)
		}
		wantLate(t, l, 5, 3, row...)
		for _, answer := range [][]int{order, in, row, same} {
			spoil(answer)
		}
	}
	if !slices.Equal(l, someJobs()) || !slices.Equal(l[:40][4:], make([]impl.Job, 36)) {
		t.Errorf("%v", l[:40])
	}
	if !slices.Equal(some[:40], append([]int{0, 1, 2, 3}, make([]int, 36)...)) {
		t.Errorf("%v", some[:40])
	}
}
