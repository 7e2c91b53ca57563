package tests

import (
	"math"
	"math/rand"
	"slices"
	"strconv"
	"strings"
	"testing"

	"loop.example/g00315/impl"
)

// jobsOf reads jobs from words: "3:4 2:9" are one that is 3 long and due at 4, and one that is 2 long and due at 9.
func jobsOf(text string) []impl.Job {
	var l []impl.Job
	for _, word := range strings.Fields(text) {
		long, due, _ := strings.Cut(word, ":")
		n, bad := strconv.Atoi(long)
		m, worse := strconv.Atoi(due)
		if bad != nil || worse != nil {
			panic(text)
		}
		l = append(l, impl.Job{Long: n, Due: m})
	}
	return l
}

// plainGoodJobs asks for the rules of jobs one after another.
func plainGoodJobs(l []impl.Job) bool {
	for _, j := range l {
		if j.Long < 1 || j.Long > 100 || j.Due < 1 || j.Due > 1000 {
			return false
		}
	}
	return len(l) <= 10
}

// plainJobOrder looks for each job, and how often it stands there.
func plainJobOrder(l []impl.Job, order []int) bool {
	for job := range l {
		often := 0
		for _, k := range order {
			if k == job {
				often++
			}
		}
		if often != 1 {
			return false
		}
	}
	return plainGoodJobs(l) && len(order) == len(l)
}

// plainEnd is all that is done up to a job, itself among it.
func plainEnd(l []impl.Job, order []int, job int) int {
	end := 0
	for _, k := range order[:slices.Index(order, job)+1] {
		end += l[k].Long
	}
	return end
}

// plainLate is the greatest lateness, and how many are late.
func plainLate(l []impl.Job, order []int) (int, int) {
	greatest, many := 0, 0
	for job, j := range l {
		if over := plainEnd(l, order, job) - j.Due; over > 0 {
			greatest, many = max(greatest, over), many+1
		}
	}
	return greatest, many
}

// plainByDue goes through all times at which something can be due.
func plainByDue(l []impl.Job) []int {
	var order []int
	for due := 1; due <= 1000; due++ {
		for job, j := range l {
			if j.Due == due {
				order = append(order, job)
			}
		}
	}
	return order
}

// eachOrder tells all orders of so many jobs.
func eachOrder(many int, tell func([]int)) {
	var next func(order []int)
	next = func(order []int) {
		if len(order) == many {
			tell(order)
			return
		}
		for job := range many {
			if !slices.Contains(order, job) {
				next(append(slices.Clip(order), job))
			}
		}
	}
	next(nil)
}

// checkOrder asks IsJobOrder, LatenessOf and LateIn, as said or not.
func checkOrder(t *testing.T, l []impl.Job, order []int) (int, int) {
	t.Helper()
	jobs, row := slices.Clone(l), slices.Clone(order)
	is := plainJobOrder(l, order)
	greatest, many := 0, 0
	if is {
		greatest, many = plainLate(l, order)
	}
	if ok := impl.IsJobOrder(l, order); ok != is {
		t.Fatalf("IsJobOrder(%v, %v) = %v", l, order, ok)
	}
	if n, ok := impl.LatenessOf(l, order); n != greatest || ok != is {
		t.Fatalf("LatenessOf(%v, %v) = %d, %v, not %d, %v", l, order, n, ok, greatest, is)
	}
	if n, ok := impl.LateIn(l, order); n != many || ok != is {
		t.Fatalf("LateIn(%v, %v) = %d, %v, not %d, %v", l, order, n, ok, many, is)
	}
	if !slices.Equal(l, jobs) || !slices.Equal(order, row) {
		t.Fatalf("written into: %v, %v, once %v, %v", l, order, jobs, row)
	}
	return greatest, many
}

// checkByDue asks GoodJobs and ByDue, as said or not.
func checkByDue(t *testing.T, l []impl.Job) []int {
	t.Helper()
	was := slices.Clone(l)
	can := plainGoodJobs(l)
	var want []int
	if can {
		want = plainByDue(l)
	}
	if ok := impl.GoodJobs(l); ok != can {
		t.Fatalf("GoodJobs(%v) = %v", l, ok)
	}
	order, ok := impl.ByDue(l)
	if !slices.Equal(order, want) || ok != can {
		t.Fatalf("ByDue(%v) = %v, %v, not %v, %v", l, order, ok, want, can)
	}
	if can {
		checkOrder(t, l, order)
	}
	if !slices.Equal(l, was) {
		t.Fatalf("written into: %v, once %v", l, was)
	}
	return order
}

// checkEveryOrder holds all orders against that by due times, and against the jobs that are told to be in time.
func checkEveryOrder(t *testing.T, l []impl.Job) {
	t.Helper()
	least, _ := checkOrder(t, l, checkByDue(t, l))
	fewest := len(l) - len(checkFewest(t, l))
	reached := false
	eachOrder(len(l), func(order []int) {
		greatest, many := checkOrder(t, l, order)
		if greatest < least || many < fewest {
			t.Fatalf("%v: %v is late by %d, %d are late; by due times %d, told %d", l, order, greatest, many, least, fewest)
		}
		reached = reached || many == fewest
	})
	if !reached {
		t.Fatalf("%v: no order has as few as %d late", l, fewest)
	}
}

// askOfJobs asks everything of these jobs: orders, rows that are none, and choices.
func askOfJobs(t *testing.T, l []impl.Job) {
	t.Helper()
	order := plainByDue(l)
	checkByDue(t, l)
	checkFewest(t, l)
	rows := [][]int{nil, {}, {0}, {0, 1}, {1, 0}, {-1}, {0, 0}, {math.MinInt}, {math.MaxInt}, order, append(slices.Clone(order), 0), make([]int, 5000)}
	for i := range order {
		rows = append(rows, without(order, order[i]))
		for _, other := range []int{math.MinInt, -1, 0, len(l) - 1, len(l), 10, math.MaxInt} {
			row := slices.Clone(order)
			row[i] = other
			rows = append(rows, row)
		}
	}
	for _, row := range rows {
		checkOrder(t, l, row)
		checkOrderFor(t, l, row)
	}
}

func wantByDue(t *testing.T, l []impl.Job, want ...int) {
	t.Helper()
	checkByDue(t, l)
	if order, ok := impl.ByDue(l); !slices.Equal(order, want) || !ok {
		t.Errorf("ByDue(%v) = %v, %v, not %v", l, order, ok, want)
	}
}

// wantLate names the greatest lateness and how many are late, in an order.
func wantLate(t *testing.T, l []impl.Job, greatest int, many int, order ...int) {
	t.Helper()
	checkOrder(t, l, order)
	if n, ok := impl.LatenessOf(l, order); n != greatest || !ok {
		t.Errorf("LatenessOf(%v, %v) = %d, %v, not %d", l, order, n, ok, greatest)
	}
	if n, ok := impl.LateIn(l, order); n != many || !ok {
		t.Errorf("LateIn(%v, %v) = %d, %v, not %d", l, order, n, ok, many)
	}
	if !impl.IsJobOrder(l, order) {
		t.Errorf("%v: %v is no order", l, order)
	}
}

// wantNoOrder asks for jobs or a row of which nothing is told.
func wantNoOrder(t *testing.T, what string, l []impl.Job, order []int) {
	t.Helper()
	checkOrder(t, l, order)
	if impl.IsJobOrder(l, order) {
		t.Errorf("%s: %v: %v is an order", what, l, order)
	}
	if n, ok := impl.LatenessOf(l, order); n != 0 || ok {
		t.Errorf("%s: LatenessOf(%v, %v) = %d, %v", what, l, order, n, ok)
	}
	if n, ok := impl.LateIn(l, order); n != 0 || ok {
		t.Errorf("%s: LateIn(%v, %v) = %d, %v", what, l, order, n, ok)
	}
}

// wantBadJobs asks all functions at arguments that would do with good jobs.
func wantBadJobs(t *testing.T, what string, l []impl.Job) {
	t.Helper()
	if plainGoodJobs(l) || impl.GoodJobs(l) {
		t.Errorf("%s: %v are good", what, l)
	}
	if order, ok := impl.ByDue(l); len(order) != 0 || ok {
		t.Errorf("%s: ByDue(%v) = %v, %v", what, l, order, ok)
	}
	if jobs, ok := impl.FewestLate(l); len(jobs) != 0 || ok {
		t.Errorf("%s: FewestLate(%v) = %v, %v", what, l, jobs, ok)
	}
	all := chosen(1<<len(l) - 1)
	for _, some := range [][]int{nil, {}, {0}, all} {
		wantNoOrderFor(t, what, l, some)
	}
	wantNoOrder(t, what, l, all)
	wantNoOrder(t, what, l, nil)
	askOfJobs(t, l)
}

// someJobs are all in time by no order.
func someJobs() []impl.Job {
	return jobsOf("3:4 2:3 5:9 4:5")
}

func anyJobs(r *rand.Rand, many int, long int, due int) []impl.Job {
	l := make([]impl.Job, many)
	for k := range l {
		l[k] = impl.Job{Long: 1 + r.Intn(long), Due: 1 + r.Intn(due)}
	}
	return l
}

func TestByDueKnown(t *testing.T) {
	wantByDue(t, someJobs(), 1, 0, 3, 2)
	wantByDue(t, jobsOf("1:1 1:2 1:3"), 0, 1, 2)
	wantByDue(t, jobsOf("1:3 1:2 1:1"), 2, 1, 0)
	wantByDue(t, jobsOf("1:7"), 0)
	// What counts is Due alone, not Long, nor how much time is left for it.
	wantByDue(t, jobsOf("1:9 9:8 1:7"), 2, 1, 0)
	wantByDue(t, jobsOf("100:9 1:8 50:10"), 1, 0, 2)
	// By number, not as texts are compared.
	wantByDue(t, jobsOf("1:1000 1:999 1:10 1:9 1:100"), 3, 2, 4, 1, 0)
}

func TestOfTheSameDueTheLowerNumber(t *testing.T) {
	wantByDue(t, jobsOf("1:5 1:5 1:5"), 0, 1, 2)
	wantByDue(t, jobsOf("9:5 5:5 1:5"), 0, 1, 2)
	wantByDue(t, jobsOf("1:5 5:5 9:5"), 0, 1, 2)
	wantByDue(t, jobsOf("1:5 1:4 1:5 1:4"), 1, 3, 0, 2)
	wantByDue(t, jobsOf("4:4 3:5 2:4 1:5 9:4"), 0, 2, 4, 1, 3)
	wantByDue(t, slices.Repeat(jobsOf("7:7"), 10), 0, 1, 2, 3, 4, 5, 6, 7, 8, 9)
	wantByDue(t, slices.Repeat(jobsOf("2:2 1:1"), 5), 1, 3, 5, 7, 9, 0, 2, 4, 6, 8)
}

func TestLateKnown(t *testing.T) {
	l := someJobs()
	// They end at 2, 5, 9, 14.
	wantLate(t, l, 5, 3, 1, 0, 3, 2)
	// At 3, 5, 10, 14.
	wantLate(t, l, 9, 3, 0, 1, 2, 3)
	// At 5, 9, 12, 14.
	wantLate(t, l, 11, 3, 2, 3, 0, 1)
	// At 2, 7, 10, 14.
	wantLate(t, l, 9, 2, 1, 2, 0, 3)
	// The greatest is neither the first nor the last, nor that of the longest.
	wantLate(t, jobsOf("2:1 3:1 9:90"), 4, 2, 0, 1, 2)
	wantLate(t, jobsOf("2:1 3:1 9:90 1:13"), 4, 3, 0, 1, 2, 3)
	// Each is late by itself, and they are late together.
	wantLate(t, jobsOf("2:1 2:1 2:1"), 5, 3, 2, 0, 1)
	wantLate(t, jobsOf("1:1 1:1 1:1"), 2, 2, 2, 0, 1)
}

func TestNobodyLate(t *testing.T) {
	wantLate(t, jobsOf("3:4"), 0, 0, 0)
	wantLate(t, jobsOf("3:1000 4:1000"), 0, 0, 1, 0)
	wantLate(t, jobsOf("1:100 2:200 3:300"), 0, 0, 2, 1, 0)
	wantLate(t, jobsOf("1:100 2:200 3:300"), 0, 0, 0, 1, 2)
	for _, l := range [][]impl.Job{jobsOf("3:4"), jobsOf("1:6 2:6 3:6"), jobsOf("3:6 2:3 1:1")} {
		wantLate(t, l, 0, 0, checkByDue(t, l)...)
	}
}

// TestEndsJustWhenDue has jobs that end when they are due, which is in time, and one later, which is not.
func TestEndsJustWhenDue(t *testing.T) {
	wantLate(t, jobsOf("4:4"), 0, 0, 0)
	wantLate(t, jobsOf("4:3"), 1, 1, 0)
	wantLate(t, jobsOf("4:5"), 0, 0, 0)
	wantLate(t, jobsOf("4:4 3:7 2:9"), 0, 0, 0, 1, 2)
	wantLate(t, jobsOf("4:4 3:6 2:9"), 1, 1, 0, 1, 2)
	wantLate(t, jobsOf("4:4 3:7 2:8"), 1, 1, 0, 1, 2)
	wantLate(t, jobsOf("4:3 3:6 2:8"), 1, 3, 0, 1, 2)
	wantLate(t, jobsOf("1:1"), 0, 0, 0)
	wantLate(t, jobsOf("100:100"), 0, 0, 0)
}

func TestJobsAtTheirBounds(t *testing.T) {
	for _, long := range []int{1, 2, 99, 100} {
		for _, due := range []int{1, 2, 99, 100, 101, 999, 1000} {
			l := []impl.Job{{Long: long, Due: due}}
			if !impl.GoodJobs(l) {
				t.Errorf("%v are not good", l)
			}
			wantByDue(t, l, 0)
			over := max(long-due, 0)
			wantLate(t, l, over, min(over, 1), 0)
			askOfJobs(t, l)
		}
	}
	// Longer than its Due, as much as can be.
	wantLate(t, jobsOf("100:1"), 99, 1, 0)
	wantLate(t, jobsOf("100:1 1:1000"), 99, 1, 0, 1)
	wantLate(t, jobsOf("100:1 1:1000"), 100, 1, 1, 0)
}

func TestMaxJobs(t *testing.T) {
	if impl.MaxJobs != 10 {
		t.Fatal(impl.MaxJobs)
	}
	all := chosen(1<<10 - 1)
	l := slices.Repeat(jobsOf("100:1"), 10)
	wantByDue(t, l, all...)
	wantLate(t, l, 999, 10, all...)
	askOfJobs(t, l)
	l = slices.Repeat(jobsOf("100:1000"), 10)
	wantLate(t, l, 0, 0, all...)
	askOfJobs(t, l)
	l = slices.Repeat(jobsOf("100:999"), 10)
	wantLate(t, l, 1, 1, 9, 8, 7, 6, 5, 4, 3, 2, 1, 0)
	askOfJobs(t, l)
	l = jobsOf("1:10 1:9 1:8 1:7 1:6 1:5 1:4 1:3 1:2 1:1")
	wantByDue(t, l, 9, 8, 7, 6, 5, 4, 3, 2, 1, 0)
	wantLate(t, l, 0, 0, 9, 8, 7, 6, 5, 4, 3, 2, 1, 0)
	wantLate(t, l, 9, 5, all...)
}

func TestNoJobs(t *testing.T) {
	for _, l := range [][]impl.Job{nil, {}} {
		if !impl.GoodJobs(l) {
			t.Errorf("%v are not good", l)
		}
		wantByDue(t, l)
		wantLate(t, l, 0, 0)
		wantFewestLate(t, l)
		wantOrderFor(t, l, nil)
		wantOrderFor(t, l, []int{})
		for _, bad := range []int{-1, 0, 1, 10} {
			wantNoOrder(t, "of no job", l, []int{bad})
			wantNoOrderFor(t, "of no job", l, []int{bad})
		}
		askOfJobs(t, l)
		checkEveryOrder(t, l)
	}
}

// wrongJobs break each one rule of a job.
func wrongJobs() map[string]impl.Job {
	return map[string]impl.Job{
		"nothing":           {},
		"Long 0":            {Long: 0, Due: 5},
		"Long -1":           {Long: -1, Due: 5},
		"Long 101":          {Long: 101, Due: 500},
		"Long least of all": {Long: math.MinInt, Due: 5},
		"Long most of all":  {Long: math.MaxInt, Due: 5},
		"Due 0":             {Long: 1, Due: 0},
		"Due -1":            {Long: 1, Due: -1},
		"Due 1001":          {Long: 1, Due: 1001},
		"Due least of all":  {Long: 1, Due: math.MinInt},
		"Due most of all":   {Long: 1, Due: math.MaxInt},
	}
}

func TestBadJobs(t *testing.T) {
	for what, j := range wrongJobs() {
		wantBadJobs(t, what, []impl.Job{j})
		wantBadJobs(t, what+", the first", append([]impl.Job{j}, someJobs()...))
		wantBadJobs(t, what+", the last", append(someJobs(), j))
		wantBadJobs(t, what+", the last of 10", append(slices.Repeat(jobsOf("1:9"), 9), j))
		wantBadJobs(t, what+", twice", []impl.Job{j, j})
	}
	wantBadJobs(t, "one more than MaxJobs", slices.Repeat(jobsOf("1:100"), 11))
	wantBadJobs(t, "two more than MaxJobs", slices.Repeat(jobsOf("1:100"), 12))
	many := slices.Repeat(jobsOf("1:100"), 3000)
	order := make([]int, len(many))
	for k := range order {
		order[k] = k
	}
	if impl.GoodJobs(many) {
		t.Error("3000 jobs are good")
	}
	wantNoOrder(t, "many more than MaxJobs", many, order)
}

func TestOrdersWrong(t *testing.T) {
	l := someJobs()
	for what, order := range map[string][]int{
		"none": nil, "empty": {}, "one": {0},
		"one left out": {1, 0, 3}, "the first left out": {1, 2, 3}, "the last left out": {0, 1, 2},
		"one twice": {0, 1, 2, 2}, "one twice, apart": {1, 0, 2, 1}, "one twice beside all": {0, 1, 2, 3, 3}, "all one": {0, 0, 0, 0},
		"all twice": {0, 1, 2, 3, 0, 1, 2, 3}, "below 0": {0, 1, 2, -1}, "below 0 beside all": {-1, 0, 1, 2, 3}, "of no job": {0, 1, 2, 4},
		"of no job beside all": {0, 1, 2, 3, 4}, "from 1 on": {1, 2, 3, 4}, "far": {0, 1, 2, math.MaxInt}, "far below": {math.MinInt, 1, 2, 3},
		"below and beyond": {-1, 1, 2, 4}, "the same sum": {0, 0, 3, 3}, "many": make([]int, 5000),
	} {
		wantNoOrder(t, what, l, order)
	}
	askOfJobs(t, l)
	// Two alike are still two.
	wantNoOrder(t, "one of two alike", jobsOf("1:5 1:5"), []int{0})
	wantNoOrder(t, "one of two alike, twice", jobsOf("1:5 1:5"), []int{1, 1})
}

// TestEveryRowOfJobs asks for all rows of numbers about those of three jobs, orders or not.
func TestEveryRowOfJobs(t *testing.T) {
	l, orders := jobsOf("2:3 1:1 3:4"), 0
	for many := range 5 {
		row := make([]int, many)
		for code := range int(math.Pow(5, float64(many))) {
			for i := range row {
				row[i], code = code%5-1, code/5
			}
			checkOrder(t, l, row)
			checkOrderFor(t, l, row)
			if impl.IsJobOrder(l, row) {
				orders++
			}
		}
	}
	if orders != 6 {
		t.Errorf("%d orders of three jobs", orders)
	}
}

// eachJobs tells all lists of so many jobs, Long and Due up to those.
func eachJobs(many int, long int, due int, tell func([]impl.Job)) {
	var next func(l []impl.Job)
	next = func(l []impl.Job) {
		if len(l) == many {
			tell(l)
			return
		}
		for code := range long * due {
			next(append(slices.Clip(l), impl.Job{Long: code%long + 1, Due: code/long + 1}))
		}
	}
	next(nil)
}

func TestNoOrderIsBetterOfAllSmall(t *testing.T) {
	for many, most := range map[int]impl.Job{1: {Long: 4, Due: 6}, 2: {Long: 4, Due: 8}, 3: {Long: 3, Due: 8}, 4: {Long: 2, Due: 6}} {
		eachJobs(many, most.Long, most.Due, func(l []impl.Job) {
			checkEveryOrder(t, l)
		})
	}
}

func TestNoOrderIsBetter(t *testing.T) {
	r := rand.New(rand.NewSource(12))
	for range 150 {
		many := 5 + r.Intn(2)
		long := 1 + r.Intn(20)
		checkEveryOrder(t, anyJobs(r, many, long, 1+r.Intn(many*long)))
	}
	// One list with all orders of seven jobs.
	checkEveryOrder(t, jobsOf("6:8 4:9 7:15 8:20 3:21 5:22 2:9"))
}

func TestJobsMixed(t *testing.T) {
	r := rand.New(rand.NewSource(121))
	good := 0
	for range 4000 {
		l := anyJobs(r, r.Intn(12), 1+r.Intn(101), 1+r.Intn(1001))
		if len(l) > 0 && r.Intn(6) == 0 {
			l[r.Intn(len(l))].Long = r.Intn(2) * 101
		}
		if len(l) > 0 && r.Intn(6) == 0 {
			l[r.Intn(len(l))].Due = r.Intn(2) * 1001
		}
		checkByDue(t, l)
		checkFewest(t, l)
		order := r.Perm(len(l))
		checkOrder(t, l, order)
		row := order[:r.Intn(len(order)+1)]
		slices.Sort(row)
		checkOrder(t, l, row)
		checkOrderFor(t, l, row)
		if impl.GoodJobs(l) {
			good++
		}
	}
	if good < 1000 || good > 3000 {
		t.Errorf("%d of 4000 are good", good)
	}
}
