package tests

import (
	"math"
	"math/rand"
	"slices"
	"testing"

	"loop.example/g00315/impl"
)

// waits is a queue with what waits in it.
func waits(deficit int, longs ...int) impl.Queue {
	return impl.Queue{Longs: longs, Deficit: deficit}
}

func turnsOf(quantum int, queues ...impl.Queue) impl.Turns {
	return impl.Turns{Quantum: quantum, Queues: queues}
}

func copyTurns(x impl.Turns) impl.Turns {
	queues := make([]impl.Queue, len(x.Queues))
	for i, q := range x.Queues {
		queues[i] = impl.Queue{Longs: append([]int{}, q.Longs...), Deficit: q.Deficit, Sent: q.Sent}
	}
	return impl.Turns{Quantum: x.Quantum, Queues: queues, Rounds: x.Rounds}
}

func sameTurns(x impl.Turns, y impl.Turns) bool {
	return x.Quantum == y.Quantum && x.Rounds == y.Rounds && slices.EqualFunc(x.Queues, y.Queues, func(p impl.Queue, q impl.Queue) bool {
		return slices.Equal(p.Longs, q.Longs) && p.Deficit == q.Deficit && p.Sent == q.Sent
	})
}

func plainSpan(n int, least int, most int) bool {
	return !(n < least) && !(n > most)
}

func plainGoodTurns(x impl.Turns) bool {
	good := plainSpan(x.Quantum, 1, 50) && plainSpan(len(x.Queues), 1, 6) && plainSpan(x.Rounds, 0, 1000000)
	for _, q := range x.Queues {
		good = good && len(q.Longs) <= 40 && plainSpan(q.Deficit, 0, 100) && plainSpan(q.Sent, 0, 1000000)
		good = good && (len(q.Longs) > 0 || q.Deficit == 0)
		for _, long := range q.Longs {
			good = good && plainSpan(long, 1, 50)
		}
	}
	return good
}

func plainQueueIn(x impl.Turns, queue int) bool {
	return plainGoodTurns(x) && queue >= 0 && queue < len(x.Queues)
}

// plainPut writes all anew, with the one behind the last one of its queue.
func plainPut(x impl.Turns, queue int, long int) (impl.Turns, bool) {
	if !plainQueueIn(x, queue) || !plainSpan(long, 1, 50) || len(x.Queues[queue].Longs) >= 40 {
		return impl.Turns{}, false
	}
	x = copyTurns(x)
	x.Queues[queue].Longs = slices.Insert(x.Queues[queue].Longs, len(x.Queues[queue].Longs), long)
	return x, true
}

func plainWaiting(x impl.Turns, queue int) (int, bool) {
	if !plainQueueIn(x, queue) {
		return 0, false
	}
	sum := 0
	for i := len(x.Queues[queue].Longs); i > 0; i-- {
		sum += x.Queues[queue].Longs[i-1]
	}
	return sum, true
}

// checkGoodTurns asks GoodTurns, as said or not.
func checkGoodTurns(t *testing.T, x impl.Turns) {
	t.Helper()
	was := copyTurns(x)
	if is := plainGoodTurns(x); impl.GoodTurns(x) != is {
		t.Fatalf("GoodTurns(%+v) is not %v", x, is)
	}
	if !sameTurns(x, was) {
		t.Fatalf("written into: %+v, once %+v", x, was)
	}
}

// checkPut asks PutLong and WaitingIn, as said or not.
func checkPut(t *testing.T, x impl.Turns, queue int, long int) (impl.Turns, bool) {
	t.Helper()
	checkGoodTurns(t, x)
	was := copyTurns(x)
	sum, is := plainWaiting(x, queue)
	if n, ok := impl.WaitingIn(x, queue); n != sum || ok != is {
		t.Fatalf("WaitingIn(%+v, %d) = %d, %v, not %d, %v", x, queue, n, ok, sum, is)
	}
	want, can := plainPut(x, queue, long)
	after, ok := impl.PutLong(x, queue, long)
	if !sameTurns(after, want) || ok != can {
		t.Fatalf("PutLong(%+v, %d, %d) = %+v, %v, not %+v, %v", x, queue, long, after, ok, want, can)
	}
	if ok && !impl.GoodTurns(after) {
		t.Fatalf("PutLong(%+v, %d, %d) = %+v: not good", x, queue, long, after)
	}
	if n, _ := impl.WaitingIn(after, queue); ok && n != sum+long {
		t.Fatalf("WaitingIn(%+v, %d) = %d, not %d and %d", after, queue, n, sum, long)
	}
	if !sameTurns(x, was) {
		t.Fatalf("written into: %+v, once %+v", x, was)
	}
	return after, ok
}

func wantWaiting(t *testing.T, x impl.Turns, queue int, sum int) {
	t.Helper()
	checkPut(t, x, queue, 1)
	if n, ok := impl.WaitingIn(x, queue); n != sum || !ok {
		t.Errorf("WaitingIn(%+v, %d) = %d, %v, not %d", x, queue, n, ok, sum)
	}
}

// wantPut names what waits in the queue then; nothing else changes.
func wantPut(t *testing.T, x impl.Turns, queue int, long int, longs ...int) impl.Turns {
	t.Helper()
	checkPut(t, x, queue, long)
	want := copyTurns(x)
	want.Queues[queue].Longs = longs
	after, ok := impl.PutLong(x, queue, long)
	if !sameTurns(after, want) || !ok {
		t.Errorf("PutLong(%+v, %d, %d) = %+v, %v, not %+v", x, queue, long, after, ok, want)
	}
	return after
}

func wantNoPut(t *testing.T, what string, x impl.Turns, queue int, long int) {
	t.Helper()
	checkPut(t, x, queue, long)
	if after, ok := impl.PutLong(x, queue, long); !sameTurns(after, impl.Turns{}) || ok {
		t.Errorf("%s: PutLong(%+v, %d, %d) = %+v, %v", what, x, queue, long, after, ok)
	}
}

func wantNoQueue(t *testing.T, what string, x impl.Turns, queue int) {
	t.Helper()
	wantNoPut(t, what, x, queue, 1)
	if n, ok := impl.WaitingIn(x, queue); n != 0 || ok {
		t.Errorf("%s: WaitingIn(%+v, %d) = %d, %v", what, x, queue, n, ok)
	}
}

// wantBadTurns asks every function of turns that are not good, beside arguments that would do and others.
func wantBadTurns(t *testing.T, what string, x impl.Turns) {
	t.Helper()
	if plainGoodTurns(x) || impl.GoodTurns(x) {
		t.Errorf("%s: %+v is good", what, x)
	}
	for queue := -1; queue <= len(x.Queues); queue++ {
		wantNoQueue(t, what, x, queue)
		wantNoPut(t, what, x, queue, 50)
	}
	wantNoNextRound(t, what, x)
	for _, many := range []int{-1, 0, 1, 2, 200, 201} {
		wantNoRuns(t, what, x, many)
	}
}

// wrongLongs are no Longs.
func wrongLongs() []int {
	return []int{0, -1, 51, -50, 100, math.MinInt, math.MaxInt, math.MinInt + 1, 1 << 32, -1 << 32}
}

// wrongCounts are neither Sent nor Rounds.
func wrongCounts() []int {
	return []int{-1, 1000001, -1000000, math.MinInt, math.MaxInt, 1 << 32, -1 << 32}
}

// wrongDeficits are left to nobody.
func wrongDeficits() []int {
	return []int{-1, 101, -100, 150, math.MinInt, math.MaxInt, math.MaxInt - 50, 1 << 32}
}

// someTurns is good, with queues that wait and others that do not.
func someTurns() impl.Turns {
	x := turnsOf(7, waits(3, 10, 2, 50), waits(0), waits(100, 1), waits(0, 9, 9))
	x.Queues[0].Sent, x.Queues[1].Sent, x.Rounds = 17, 1000, 12
	return x
}

func anyLongs(r *rand.Rand, many int, most int) []int {
	longs := make([]int, many)
	for i := range longs {
		longs[i] = 1 + r.Intn(most)
	}
	return longs
}

// anyTurns is good, whatever comes.
func anyTurns(r *rand.Rand) impl.Turns {
	x := impl.Turns{Quantum: 1 + r.Intn(50), Rounds: r.Intn(1000)}
	most := 1 + r.Intn(50)
	for range 1 + r.Intn(6) {
		q := impl.Queue{Sent: r.Intn(1000)}
		if r.Intn(4) > 0 {
			q.Longs = anyLongs(r, 1+r.Intn(40), most)
			q.Deficit = r.Intn(2) * r.Intn(101)
		}
		x.Queues = append(x.Queues, q)
	}
	return x
}

// spoilTurns breaks one rule, or now and then none.
func spoilTurns(r *rand.Rand, x impl.Turns) impl.Turns {
	x = copyTurns(x)
	q := &x.Queues[r.Intn(len(x.Queues))]
	switch r.Intn(9) {
	case 0:
		x.Quantum = wrongLongs()[r.Intn(10)]
	case 1:
		x.Rounds = wrongCounts()[r.Intn(7)]
	case 2:
		q.Sent = wrongCounts()[r.Intn(7)]
	case 3:
		q.Deficit = wrongDeficits()[r.Intn(8)]
	case 4:
		if len(q.Longs) > 0 {
			q.Longs[r.Intn(len(q.Longs))] = wrongLongs()[r.Intn(10)]
		}
	case 5:
		q.Longs = anyLongs(r, 41, 50)
	case 6:
		q.Longs, q.Deficit = nil, 1+r.Intn(100)
	case 7:
		x.Queues = x.Queues[:0]
	case 8:
		x.Queues = append(x.Queues, make([]impl.Queue, 7-len(x.Queues))...)
	}
	return x
}

func TestTurnsConstants(t *testing.T) {
	if impl.MaxQueues != 6 || impl.MaxLong != 50 {
		t.Error(impl.MaxQueues, impl.MaxLong)
	}
}

func TestNewTurns(t *testing.T) {
	for quantum := -2; quantum <= 60; quantum++ {
		for queues := -2; queues <= 12; queues++ {
			is := plainSpan(quantum, 1, 50) && plainSpan(queues, 1, 6)
			want := impl.Turns{}
			if is {
				want = turnsOf(quantum, make([]impl.Queue, queues)...)
			}
			x, ok := impl.NewTurns(quantum, queues)
			if !sameTurns(x, want) || ok != is || impl.GoodTurns(x) != is {
				t.Fatalf("NewTurns(%d, %d) = %+v, %v", quantum, queues, x, ok)
			}
			for i := range x.Queues {
				wantWaiting(t, x, i, 0)
			}
		}
	}
	for _, wrong := range []int{math.MinInt, math.MaxInt, 1 << 32, -1 << 32, 1 << 62, 7 + 1<<32, -6} {
		for _, args := range [][2]int{{5, wrong}, {wrong, 2}, {wrong, wrong}, {0, wrong}, {wrong, 0}} {
			if x, ok := impl.NewTurns(args[0], args[1]); !sameTurns(x, impl.Turns{}) || ok {
				t.Errorf("NewTurns(%v) = %+v, %v", args, x, ok)
			}
		}
	}
}

func TestPutLongKnown(t *testing.T) {
	x, _ := impl.NewTurns(5, 3)
	x = wantPut(t, x, 1, 7, 7)
	x = wantPut(t, x, 1, 3, 7, 3)
	x = wantPut(t, x, 0, 50, 50)
	x = wantPut(t, x, 1, 1, 7, 3, 1)
	x = wantPut(t, x, 2, 1, 1)
	x = wantPut(t, x, 2, 1, 1, 1) // two alike may wait
	wantWaiting(t, x, 0, 50)
	wantWaiting(t, x, 1, 11)
	wantWaiting(t, x, 2, 2)
	// All else stays as it is.
	wantPut(t, someTurns(), 0, 4, 10, 2, 50, 4)
	wantPut(t, someTurns(), 1, 4, 4)
	wantPut(t, someTurns(), 2, 50, 1, 50)
	wantPut(t, someTurns(), 3, 1, 9, 9, 1)
	for i, sum := range []int{62, 0, 1, 18} {
		wantWaiting(t, someTurns(), i, sum)
	}
}

func TestPutLongAtItsBounds(t *testing.T) {
	for queues := 1; queues <= 6; queues++ {
		for _, long := range []int{1, 2, 49, 50} {
			x, _ := impl.NewTurns(50, queues)
			for queue := range queues {
				for many := range 40 {
					wantWaiting(t, x, queue, many*long)
					x = wantPut(t, x, queue, long, slices.Repeat([]int{long}, many+1)...)
				}
				wantWaiting(t, x, queue, 40*long)
				wantNoPut(t, "a 41st", x, queue, long)
				wantNoPut(t, "a 41st", x, queue, 1)
			}
			wantNoQueue(t, "behind the last", x, queues)
		}
	}
}

func TestPutLongWrong(t *testing.T) {
	for queue := range 4 {
		for _, long := range wrongLongs() {
			wantNoPut(t, "no Long", someTurns(), queue, long)
		}
	}
	for _, queue := range []int{-1, 4, 5, 6, 40, -4, math.MinInt, math.MaxInt, 1 << 32, -1 << 32} {
		wantNoQueue(t, "no queue", someTurns(), queue)
		for _, long := range append(wrongLongs(), 1, 50) {
			wantNoPut(t, "no queue", someTurns(), queue, long)
		}
	}
	for queues := 1; queues <= 6; queues++ {
		x, _ := impl.NewTurns(1, queues)
		for queue := -8; queue <= 8; queue++ {
			checkPut(t, x, queue, 5)
		}
	}
}

func TestTurnsGoodAtTheirBounds(t *testing.T) {
	for _, x := range []impl.Turns{
		turnsOf(1, waits(0)),
		turnsOf(50, waits(0)),
		turnsOf(1, make([]impl.Queue, 6)...),
		turnsOf(50, waits(0, 1), waits(0, 50), waits(100, 1), waits(100, 50), waits(1, 50, 1), waits(99, 2)),
		turnsOf(5, waits(100, slices.Repeat([]int{50}, 40)...)),
		turnsOf(5, waits(0, slices.Repeat([]int{1}, 40)...)),
		{Quantum: 5, Queues: []impl.Queue{{Sent: 1000000}}, Rounds: 1000000},
		{Quantum: 5, Queues: []impl.Queue{{Longs: []int{9}, Sent: 1000000}}, Rounds: 999999},
		{Quantum: 5, Queues: []impl.Queue{{Longs: []int{}}}},
	} {
		if !plainGoodTurns(x) || !impl.GoodTurns(x) {
			t.Errorf("%+v is not good", x)
		}
		checkGoodTurns(t, x)
	}
}

func TestTurnsWrong(t *testing.T) {
	wantBadTurns(t, "nothing", impl.Turns{})
	wantBadTurns(t, "no queue", turnsOf(5))
	wantBadTurns(t, "no queue", impl.Turns{Quantum: 5, Queues: []impl.Queue{}})
	for many := 7; many <= 10; many++ {
		wantBadTurns(t, "too many queues", turnsOf(5, make([]impl.Queue, many)...))
	}
	wantBadTurns(t, "too many queues", turnsOf(5, make([]impl.Queue, 1000)...))
	for _, quantum := range wrongLongs() {
		x := someTurns()
		x.Quantum = quantum
		wantBadTurns(t, "Quantum", x)
		wantBadTurns(t, "Quantum", turnsOf(quantum, waits(0)))
	}
	for _, rounds := range wrongCounts() {
		x := someTurns()
		x.Rounds = rounds
		wantBadTurns(t, "Rounds", x)
		wantBadTurns(t, "Rounds", impl.Turns{Quantum: 5, Queues: []impl.Queue{{}}, Rounds: rounds})
	}
}

// TestQueuesWrong breaks one rule in one queue, be it the first, the last or one between.
func TestQueuesWrong(t *testing.T) {
	for queue := range 4 {
		each := func(what string, q impl.Queue) {
			x := someTurns()
			x.Queues[queue] = q
			wantBadTurns(t, what, x)
		}
		for _, sent := range wrongCounts() {
			each("Sent", impl.Queue{Sent: sent})
			each("Sent", impl.Queue{Longs: []int{5}, Deficit: 1, Sent: sent})
		}
		for _, deficit := range wrongDeficits() {
			each("Deficit", waits(deficit, 5))
			each("Deficit, nothing waits", waits(deficit))
		}
		for _, deficit := range []int{1, 2, 50, 99, 100} {
			each("Deficit, nothing waits", waits(deficit))
			each("Deficit, nothing waits", impl.Queue{Longs: []int{}, Deficit: deficit})
		}
		for _, long := range wrongLongs() {
			each("Long", waits(0, long))
			each("Long at first", waits(0, long, 5, 5))
			each("Long between", waits(100, 5, long, 5))
			each("Long at last", waits(3, 5, 5, long))
			each("the 40th Long", waits(3, append(slices.Repeat([]int{2}, 39), long)...))
		}
		each("a 41st Long", waits(0, slices.Repeat([]int{1}, 41)...))
		each("a 41st Long", waits(100, slices.Repeat([]int{50}, 41)...))
		each("many Longs", waits(0, slices.Repeat([]int{9}, 3000)...))
	}
}

func TestTurnsMixed(t *testing.T) {
	r := rand.New(rand.NewSource(14))
	did, not := 0, 0
	for range 20000 {
		x := anyTurns(r)
		if !plainGoodTurns(x) {
			t.Fatalf("%+v", x)
		}
		if r.Intn(3) == 0 {
			x = spoilTurns(r, x)
		}
		if _, ok := checkPut(t, x, r.Intn(len(x.Queues)+2)-1, r.Intn(53)-1); ok {
			did++
		} else {
			not++
		}
	}
	if did < 5000 || not < 5000 {
		t.Errorf("%d put, %d not", did, not)
	}
}
