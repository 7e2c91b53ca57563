package tests

import (
	"math"
	"math/rand"
	"slices"
	"testing"

	"loop.example/g00315/impl"
)

// plainTurn tells how many of a queue are sent: as many of the first ones as are together no more than what may be sent.
func plainTurn(quantum int, q impl.Queue) (impl.Queue, int) {
	if len(q.Longs) == 0 {
		return q, 0
	}
	many, sum := 0, 0
	for k, together := 1, 0; k <= len(q.Longs); k++ {
		together += q.Longs[k-1]
		if together <= q.Deficit+quantum {
			many, sum = k, together
		}
	}
	after := impl.Queue{Longs: append([]int{}, q.Longs[many:]...), Sent: q.Sent + sum}
	if len(after.Longs) > 0 {
		after.Deficit = q.Deficit + quantum - sum
	}
	return after, many
}

func plainRound(x impl.Turns) (impl.Turns, []int, bool) {
	if !plainGoodTurns(x) {
		return impl.Turns{}, nil, false
	}
	after := impl.Turns{Quantum: x.Quantum, Rounds: x.Rounds + 1}
	sent := []int{}
	for i, q := range x.Queues {
		next, many := plainTurn(x.Quantum, q)
		after.Queues = append(after.Queues, next)
		for range many {
			sent = append(sent, i)
		}
	}
	if !plainGoodTurns(after) {
		return impl.Turns{}, nil, false
	}
	return after, sent, true
}

// checkParts asks the promise of a round: each that still waits has sent its part and what it had left, but for less than its next one is long; who has nothing more to send keeps nothing.
func checkParts(t *testing.T, x impl.Turns, after impl.Turns) {
	t.Helper()
	for i, q := range after.Queues {
		was := x.Queues[i]
		part, sent := was.Deficit+x.Quantum, q.Sent-was.Sent
		ahead, _ := impl.WaitingIn(x, i)
		behind, _ := impl.WaitingIn(after, i)
		if sent != ahead-behind || sent < 0 {
			t.Fatalf("%+v: queue %d: %d wait, then %d, %d sent", x, i, ahead, behind, sent)
		}
		switch {
		case len(was.Longs) == 0 || len(q.Longs) == 0:
			if q.Deficit != 0 || behind != 0 || sent > part {
				t.Fatalf("%+v: queue %d: nothing waits in %+v", x, i, q)
			}
		case q.Deficit != part-sent || part-sent < 0 || part-sent >= q.Longs[0]:
			t.Fatalf("%+v: queue %d: %d sent of %d, then %+v", x, i, sent, part, q)
		}
	}
}

// checkRound asks NextRound, as said or not, and for what of it the promise tells.
func checkRound(t *testing.T, x impl.Turns) (impl.Turns, []int, bool) {
	t.Helper()
	checkGoodTurns(t, x)
	was := copyTurns(x)
	want, order, can := plainRound(x)
	after, sent, ok := impl.NextRound(x)
	if !sameTurns(after, want) || !slices.Equal(sent, order) || ok != can {
		t.Fatalf("NextRound(%+v) = %+v, %v, %v, not %+v, %v, %v", x, after, sent, ok, want, order, can)
	}
	if ok {
		checkParts(t, x, after)
		if !impl.GoodTurns(after) || after.Rounds != x.Rounds+1 {
			t.Fatalf("NextRound(%+v) = %+v", x, after)
		}
	}
	if !sameTurns(x, was) {
		t.Fatalf("written into: %+v, once %+v", x, was)
	}
	return after, sent, ok
}

// checkRuns holds RunRounds against as many rounds one by one, as said or not.
func checkRuns(t *testing.T, x impl.Turns, many int) (impl.Turns, int, bool) {
	t.Helper()
	was := copyTurns(x)
	want, all, can := copyTurns(x), 0, plainGoodTurns(x) && many >= 0 && many <= 200
	for n := 0; can && n < many; n++ {
		next, sent, ok := checkRound(t, want)
		want, all, can = next, all+len(sent), ok
	}
	if !can {
		want, all = impl.Turns{}, 0
	}
	after, sent, ok := impl.RunRounds(x, many)
	if !sameTurns(after, want) || sent != all || ok != can {
		t.Fatalf("RunRounds(%+v, %d) = %+v, %d, %v, not %+v, %d, %v", x, many, after, sent, ok, want, all, can)
	}
	if !sameTurns(x, was) {
		t.Fatalf("written into: %+v, once %+v", x, was)
	}
	return after, sent, ok
}

// wantNextRound names who sent, and of each queue how many are left and its Deficit.
func wantNextRound(t *testing.T, x impl.Turns, sent []int, left []int, deficits []int) impl.Turns {
	t.Helper()
	checkRound(t, x)
	after, got, ok := impl.NextRound(x)
	many, have := []int{}, []int{}
	for _, q := range after.Queues {
		many, have = append(many, len(q.Longs)), append(have, q.Deficit)
	}
	if !slices.Equal(got, sent) || !slices.Equal(many, left) || !slices.Equal(have, deficits) || !ok {
		t.Errorf("NextRound(%+v) = %+v, %v, %v, not %v, %v left, Deficits %v", x, after, got, ok, sent, left, deficits)
	}
	return after
}

func wantNoNextRound(t *testing.T, what string, x impl.Turns) {
	t.Helper()
	checkRound(t, x)
	if after, sent, ok := impl.NextRound(x); !sameTurns(after, impl.Turns{}) || len(sent) != 0 || ok {
		t.Errorf("%s: NextRound(%+v) = %+v, %v, %v", what, x, after, sent, ok)
	}
}

func wantRuns(t *testing.T, x impl.Turns, many int, all int) impl.Turns {
	t.Helper()
	checkRuns(t, x, many)
	after, sent, ok := impl.RunRounds(x, many)
	if sent != all || !ok || after.Rounds != x.Rounds+many {
		t.Errorf("RunRounds(%+v, %d) = %+v, %d, %v, not %d", x, many, after, sent, ok, all)
	}
	return after
}

func wantNoRuns(t *testing.T, what string, x impl.Turns, many int) {
	t.Helper()
	checkRuns(t, x, many)
	if after, sent, ok := impl.RunRounds(x, many); !sameTurns(after, impl.Turns{}) || sent != 0 || ok {
		t.Errorf("%s: RunRounds(%+v, %d) = %+v, %d, %v", what, x, many, after, sent, ok)
	}
}

func TestNextRoundKnown(t *testing.T) {
	x := turnsOf(10, waits(0, 4, 4, 4, 4), waits(0), waits(0, 25, 3), waits(0, 10, 1))
	x = wantNextRound(t, x, []int{0, 0, 3}, []int{2, 0, 2, 1}, []int{2, 0, 10, 0})
	x = wantNextRound(t, x, []int{0, 0, 3}, []int{0, 0, 2, 0}, []int{0, 0, 20, 0})
	x = wantNextRound(t, x, []int{2, 2}, []int{0, 0, 0, 0}, []int{0, 0, 0, 0})
	x = wantNextRound(t, x, nil, []int{0, 0, 0, 0}, []int{0, 0, 0, 0})
	for i, sum := range []int{16, 0, 28, 11} {
		if x.Queues[i].Sent != sum {
			t.Errorf("queue %d: %+v", i, x)
		}
	}
	if x.Rounds != 4 || x.Quantum != 10 {
		t.Errorf("%+v", x)
	}
	// Sent and Rounds go on from where they were; what had something left sends more.
	x = someTurns()
	x = wantNextRound(t, x, []int{0, 2}, []int{2, 0, 0, 2}, []int{0, 0, 0, 7})
	x = wantNextRound(t, x, []int{0, 3}, []int{1, 0, 0, 1}, []int{5, 0, 0, 5})
	x = wantNextRound(t, x, []int{3}, []int{1, 0, 0, 0}, []int{12, 0, 0, 0})
	if x.Queues[0].Sent != 29 || x.Queues[1].Sent != 1000 || x.Queues[2].Sent != 1 || x.Queues[3].Sent != 18 || x.Rounds != 15 {
		t.Errorf("%+v", x)
	}
}

// TestJustTheDeficit has a first Long that is just what may be sent, and one more.
func TestJustTheDeficit(t *testing.T) {
	for quantum := 1; quantum <= 50; quantum++ {
		for deficit := 0; deficit <= 100; deficit++ {
			may := quantum + deficit
			if may <= 50 {
				wantNextRound(t, turnsOf(quantum, waits(deficit, may)), []int{0}, []int{0}, []int{0})
				wantNextRound(t, turnsOf(quantum, waits(deficit, may, 1)), []int{0}, []int{1}, []int{0})
			}
			if may < 50 {
				wantNextRound(t, turnsOf(quantum, waits(deficit, may+1)), nil, []int{1}, []int{may})
				wantNextRound(t, turnsOf(quantum, waits(deficit, may+1, 1)), nil, []int{2}, []int{may}) // the next one waits for the first
			}
			if may > 50 && may <= 100 {
				wantNextRound(t, turnsOf(quantum, waits(deficit, 50, may-50)), []int{0, 0}, []int{0}, []int{0})
				if may < 100 {
					wantNextRound(t, turnsOf(quantum, waits(deficit, 50, may-49)), []int{0}, []int{1}, []int{may - 50})
				}
			}
		}
	}
}

func TestNextRoundAtItsBounds(t *testing.T) {
	// Quantum 1 and MaxLong, one Long of 1 and of MaxLong.
	wantNextRound(t, turnsOf(1, waits(0, 1)), []int{0}, []int{0}, []int{0})
	wantNextRound(t, turnsOf(1, waits(0, 50)), nil, []int{1}, []int{1})
	wantNextRound(t, turnsOf(50, waits(0, 1)), []int{0}, []int{0}, []int{0})
	wantNextRound(t, turnsOf(50, waits(0, 50)), []int{0}, []int{0}, []int{0})
	wantNextRound(t, turnsOf(50, waits(0, 50, 50)), []int{0}, []int{1}, []int{0})
	// 40 Longs.
	forty := slices.Repeat([]int{1}, 40)
	wantNextRound(t, turnsOf(39, waits(0, forty...)), make([]int, 39), []int{1}, []int{0})
	wantNextRound(t, turnsOf(40, waits(0, forty...)), make([]int, 40), []int{0}, []int{0})
	wantNextRound(t, turnsOf(50, waits(100, forty...)), make([]int, 40), []int{0}, []int{0})
	wantNextRound(t, turnsOf(1, waits(0, slices.Repeat([]int{50}, 40)...)), nil, []int{40}, []int{1})
	// A Deficit of 2 MaxLong: it goes beyond within the round, not behind it.
	wantNextRound(t, turnsOf(50, waits(100, 50, 50, 50, 50)), []int{0, 0, 0}, []int{1}, []int{0})
	wantNextRound(t, turnsOf(50, waits(100, 50, 50, 49, 2)), []int{0, 0, 0}, []int{1}, []int{1})
	wantNextRound(t, turnsOf(1, waits(100, 50, 50, 50)), []int{0, 0}, []int{1}, []int{1})
	wantNextRound(t, turnsOf(50, waits(100, 1)), []int{0}, []int{0}, []int{0})
	wantNextRound(t, turnsOf(49, waits(100, 50, 50, 50)), []int{0, 0}, []int{1}, []int{49})
	// MaxQueues queues, all at once, and each one alone.
	all := make([]impl.Queue, 6)
	for i := range all {
		all[i] = waits(0, 5, 5)
		one := make([]impl.Queue, 6)
		one[i] = waits(0, 5, 5, 5)
		left, deficits := make([]int, 6), make([]int, 6)
		left[i], deficits[i] = 1, 2
		wantNextRound(t, turnsOf(12, one...), []int{i, i}, left, deficits)
	}
	wantNextRound(t, turnsOf(7, all...), []int{0, 1, 2, 3, 4, 5}, []int{1, 1, 1, 1, 1, 1}, []int{2, 2, 2, 2, 2, 2})
	wantNextRound(t, turnsOf(10, all...), []int{0, 0, 1, 1, 2, 2, 3, 3, 4, 4, 5, 5}, make([]int, 6), make([]int, 6))
	wantNextRound(t, turnsOf(4, all...), nil, []int{2, 2, 2, 2, 2, 2}, []int{4, 4, 4, 4, 4, 4})
	wantNextRound(t, turnsOf(10, make([]impl.Queue, 6)...), nil, make([]int, 6), make([]int, 6))
}

// TestSomeRoundsWithoutAnything has a Quantum less than the first Long: it is saved up, as long as it takes.
func TestSomeRoundsWithoutAnything(t *testing.T) {
	for quantum := 1; quantum <= 50; quantum++ {
		for _, long := range []int{1, 7, 49, 50} {
			x := turnsOf(quantum, waits(0), waits(0, long, 50))
			saved := quantum
			for ; saved < long; saved += quantum {
				x = wantNextRound(t, x, nil, []int{0, 2}, []int{0, saved})
			}
			if saved < long+50 {
				wantNextRound(t, x, []int{1}, []int{0, 1}, []int{0, saved - long})
			} else {
				wantNextRound(t, x, []int{1, 1}, []int{0, 0}, []int{0, 0})
			}
		}
	}
}

// TestNothingIsSavedUp lets a queue wait in vain for something to send: it sends no more for that later.
func TestNothingIsSavedUp(t *testing.T) {
	x, _ := impl.NewTurns(10, 2)
	x, _ = impl.PutLong(x, 0, 4)
	x = wantNextRound(t, x, []int{0}, []int{0, 0}, []int{0, 0})
	x = wantRuns(t, x, 50, 0)
	x = wantPut(t, x, 0, 11, 11)
	x = wantPut(t, x, 1, 10, 10)
	x = wantNextRound(t, x, []int{1}, []int{1, 0}, []int{10, 0})
	wantNextRound(t, x, []int{0}, []int{0, 0}, []int{0, 0})
}

// TestCountsJustFull reaches 1000000 with Sent and with Rounds, and would go beyond.
func TestCountsJustFull(t *testing.T) {
	for queue := range 3 {
		for _, long := range []int{1, 20, 50} {
			x := turnsOf(50, waits(0, 5), waits(0), waits(0, 50))
			x.Queues[queue] = impl.Queue{Longs: []int{long}, Sent: 1000000 - long}
			after, _, ok := checkRound(t, x)
			if !ok || after.Queues[queue].Sent != 1000000 {
				t.Errorf("NextRound(%+v) = %+v, %v", x, after, ok)
			}
			checkRuns(t, x, 1)
			x.Queues[queue].Sent++
			wantNoNextRound(t, "Sent", x)
			wantNoRuns(t, "Sent", x, 1)
			wantRuns(t, x, 0, 0)
		}
		// Who is full already may wait, and may have nothing.
		x := turnsOf(10, waits(0, 5), waits(0), waits(0, 50))
		x.Queues[queue] = impl.Queue{Longs: []int{11}, Sent: 1000000}
		after, _, ok := checkRound(t, x)
		if !ok || after.Queues[queue].Deficit != 10 {
			t.Errorf("NextRound(%+v) = %+v, %v", x, after, ok)
		}
		wantNoNextRound(t, "Sent", after)
		x.Queues[queue] = impl.Queue{Sent: 1000000}
		if _, _, ok := checkRound(t, x); !ok {
			t.Errorf("NextRound(%+v): %v", x, ok)
		}
	}
	for _, x := range []impl.Turns{turnsOf(5, waits(0)), turnsOf(5, waits(0, 5, 5)), turnsOf(5, waits(0, 6))} {
		x.Rounds = 999999
		after, _, ok := checkRound(t, x)
		if !ok || after.Rounds != 1000000 {
			t.Errorf("NextRound(%+v) = %+v, %v", x, after, ok)
		}
		wantNoNextRound(t, "Rounds", after)
		wantNoRuns(t, "Rounds", after, 1)
		wantNoRuns(t, "Rounds", x, 2)
		wantNoRuns(t, "Rounds", x, 200)
		wantRuns(t, after, 0, 0)
	}
}

func TestRunRoundsKnown(t *testing.T) {
	x := turnsOf(5, waits(0, 4, 4, 4), waits(0, 8))
	wantRuns(t, x, 0, 0)
	wantRuns(t, x, 1, 1)
	wantRuns(t, x, 2, 3)
	wantRuns(t, x, 3, 4)
	wantRuns(t, x, 4, 4)
	wantRuns(t, x, 200, 4)
	// One by one it takes all 200.
	wantRuns(t, turnsOf(1, waits(0, slices.Repeat([]int{5}, 40)...)), 199, 39)
	wantRuns(t, turnsOf(1, waits(0, slices.Repeat([]int{5}, 40)...)), 200, 40)
	wantRuns(t, turnsOf(50, waits(0, slices.Repeat([]int{50}, 40)...)), 39, 39)
	wantRuns(t, turnsOf(50, waits(0, slices.Repeat([]int{50}, 40)...)), 40, 40)
	all := make([]impl.Queue, 6)
	for i := range all {
		all[i] = waits(0, slices.Repeat([]int{1}, 40)...)
	}
	after := wantRuns(t, turnsOf(1, all...), 40, 240)
	for _, q := range after.Queues {
		if q.Sent != 40 || q.Deficit != 0 || len(q.Longs) != 0 {
			t.Errorf("%+v", after)
		}
	}
}

func TestRunRoundsWrong(t *testing.T) {
	for _, many := range []int{-1, 201, -200, 1000, math.MinInt, math.MaxInt, 1 << 32, -1 << 32, 1<<32 + 1} {
		wantNoRuns(t, "many", someTurns(), many)
		wantNoRuns(t, "many", turnsOf(1, waits(0)), many)
		wantNoRuns(t, "many", impl.Turns{}, many)
	}
	// Not good at once, though nothing would be done.
	wantNoRuns(t, "nothing", impl.Turns{}, 0)
	wantNoRuns(t, "nothing waits", turnsOf(5, waits(1)), 0)
	// One round among many does not tell true, be it the first, one between or the last.
	for full := range 8 {
		x := turnsOf(5, waits(0, 1), waits(0, slices.Repeat([]int{5}, 40)...))
		x.Queues[1].Sent = 1000000 - 5*full
		for many := range 12 {
			if many <= full {
				wantRuns(t, x, many, many+min(many, 1))
			} else {
				wantNoRuns(t, "Sent", x, many)
			}
		}
		x = turnsOf(5, waits(0, 1))
		x.Rounds = 1000000 - full
		for many := range 12 {
			if many <= full {
				wantRuns(t, x, many, min(many, 1))
			} else {
				wantNoRuns(t, "Rounds", x, many)
			}
		}
	}
}

// checkEach holds what is sent against what it comes from: in each queue the first ones in their order, all else left.
func checkEach(t *testing.T, x impl.Turns, after impl.Turns, sent []int) {
	t.Helper()
	many := make([]int, len(x.Queues))
	for _, i := range sent {
		many[i]++
	}
	for i, q := range x.Queues {
		if !slices.Equal(q.Longs[many[i]:], after.Queues[i].Longs) {
			t.Fatalf("%+v: sent %v, then %+v", x, sent, after)
		}
	}
	if !slices.IsSorted(sent) {
		t.Fatalf("%+v: sent %v", x, sent)
	}
}

// TestEveryRoundOfSmall asks of two queues with up to three Longs each, whatever they had left.
func TestEveryRoundOfSmall(t *testing.T) {
	var rows [][]int
	var next func(longs []int)
	next = func(longs []int) {
		rows = append(rows, longs)
		for long := 1; long <= 4 && len(longs) < 3; long++ {
			next(append(slices.Clip(longs), long))
		}
	}
	next(nil)
	for quantum := 1; quantum <= 4; quantum++ {
		for k, first := range rows {
			for deficit := 0; deficit <= 3; deficit++ {
				second := rows[(7*k+deficit)%len(rows)]
				x := turnsOf(quantum, waits(deficit, first...), waits(0, second...))
				after, sent, ok := checkRound(t, x)
				if ok {
					checkEach(t, x, after, sent)
				}
				for many := -1; many <= 8; many++ {
					checkRuns(t, x, many)
				}
			}
		}
	}
}

func TestRoundsMixed(t *testing.T) {
	r := rand.New(rand.NewSource(141))
	some, none, no := 0, 0, 0
	for range 10000 {
		x := anyTurns(r)
		if r.Intn(4) == 0 {
			x = spoilTurns(r, x)
		}
		after, sent, ok := checkRound(t, x)
		switch {
		case !ok:
			no++
		case len(sent) == 0:
			none++
		default:
			some++
		}
		if ok {
			checkEach(t, x, after, sent)
		}
	}
	if some < 3000 || none < 200 || no < 1000 {
		t.Errorf("%d rounds in which some were sent, %d none, %d not as said", some, none, no)
	}
}

func TestRunsMixed(t *testing.T) {
	r := rand.New(rand.NewSource(142))
	for range 400 {
		x := anyTurns(r)
		if r.Intn(8) == 0 {
			x = spoilTurns(r, x)
		}
		if r.Intn(8) == 0 {
			x.Rounds = 1000000 - r.Intn(100)
		}
		if r.Intn(8) == 0 && len(x.Queues) > 0 {
			x.Queues[0].Sent = 1000000 - r.Intn(1000)
		}
		checkRuns(t, x, r.Intn(205)-2)
	}
}

// TestPutAndRound puts and sends by turns: all that was put is sent once, or still waits, in its order.
func TestPutAndRound(t *testing.T) {
	r := rand.New(rand.NewSource(143))
	for range 150 {
		x, _ := impl.NewTurns(1+r.Intn(50), 1+r.Intn(6))
		put, gone := make([][]int, len(x.Queues)), make([]int, len(x.Queues))
		for range 100 {
			if r.Intn(4) > 0 {
				queue, long := r.Intn(len(x.Queues)), 1+r.Intn(50)
				after, ok := checkPut(t, x, queue, long)
				if ok {
					x, put[queue] = after, append(put[queue], long)
				}
				continue
			}
			after, sent, ok := checkRound(t, x)
			if !ok {
				t.Fatalf("%+v", x)
			}
			for _, i := range sent {
				gone[i]++
			}
			x = after
		}
		for i, q := range x.Queues {
			sum := 0
			for _, long := range put[i][:gone[i]] {
				sum += long
			}
			if !slices.Equal(q.Longs, put[i][gone[i]:]) || q.Sent != sum {
				t.Fatalf("%+v: queue %d: %d of %v gone", x, i, gone[i], put[i])
			}
		}
	}
}

// checkNoneMore asks of two that wait all the time that neither sends more than the other by more than what it had left and a longest one.
func checkNoneMore(t *testing.T, x impl.Turns, after impl.Turns) {
	t.Helper()
	for a, p := range after.Queues {
		for b, q := range after.Queues {
			if len(p.Longs) == 0 || len(q.Longs) == 0 {
				continue
			}
			more := p.Sent - x.Queues[a].Sent - (q.Sent - x.Queues[b].Sent)
			if more > x.Queues[a].Deficit+slices.Max(x.Queues[b].Longs) {
				t.Fatalf("%+v, then %+v: queue %d has sent %d more than %d", x, after, a, more, b)
			}
		}
	}
}

func TestNoneMoreThanTheOthers(t *testing.T) {
	r := rand.New(rand.NewSource(144))
	both := 0
	for range 2000 {
		x := impl.Turns{Quantum: 1 + r.Intn(50)}
		for range 2 + r.Intn(5) {
			x.Queues = append(x.Queues, waits(r.Intn(101), anyLongs(r, 40, 1+r.Intn(50))...))
		}
		after := x
		for range 40 {
			after, _, _ = checkRound(t, after)
			checkNoneMore(t, x, after)
		}
		for _, q := range after.Queues {
			if len(q.Longs) > 0 {
				both++
			}
		}
	}
	if both < 1000 {
		t.Errorf("%d still wait", both)
	}
	// Long ones or short ones: each sends as much, though not as many.
	x := turnsOf(25, waits(0, slices.Repeat([]int{50}, 40)...), waits(0, slices.Repeat([]int{25}, 40)...), waits(0, slices.Repeat([]int{30}, 40)...))
	after := wantRuns(t, x, 30, 15+30+25)
	for _, q := range after.Queues {
		if q.Sent != 750 || q.Deficit != 0 {
			t.Errorf("%+v", after)
		}
	}
}

// TestTurnsBehindTheirLength has more behind the length of its lists, which is neither read nor written.
func TestTurnsBehindTheirLength(t *testing.T) {
	for _, behind := range []int{0, 1, 51, -1, math.MinInt} {
		longs := append(make([]int, 0, 60), 4, 4, 4, behind, behind)
		queues := []impl.Queue{waits(0, longs[:3]...), {Longs: longs[:0]}, waits(behind, behind), waits(0, 8)}
		queues[0].Longs = longs[:3]
		was, all := slices.Clone(longs[:60]), copyTurns(turnsOf(5, queues...))
		x := turnsOf(5, queues[:2]...)
		wantPut(t, x, 0, 9, 4, 4, 4, 9)
		wantPut(t, x, 1, 9, 9)
		wantWaiting(t, x, 0, 12)
		wantWaiting(t, x, 1, 0)
		wantNoQueue(t, "behind the last", x, 2)
		wantNextRound(t, x, []int{0}, []int{2, 0}, []int{1, 0})
		wantRuns(t, x, 5, 3)
		if !slices.Equal(longs[:60], was) || !sameTurns(turnsOf(5, queues...), all) {
			t.Errorf("written behind: %v, %+v", longs[:60], queues)
		}
	}
}

// ruinTurns writes into all that the lists have room for.
func ruinTurns(x impl.Turns) {
	for i, q := range x.Queues[:cap(x.Queues)] {
		longs := q.Longs[:cap(q.Longs)]
		for k := range longs {
			longs[k] = -77
		}
		x.Queues[i].Deficit, x.Queues[i].Sent = -7, -7
	}
}

// TestTurnsNewMemory asks again behind an answer that was written over.
func TestTurnsNewMemory(t *testing.T) {
	x := someTurns()
	ask := map[string]func() impl.Turns{
		"PutLong":     func() impl.Turns { after, _ := impl.PutLong(x, 0, 5); return after },
		"NextRound":   func() impl.Turns { after, _, _ := impl.NextRound(x); return after },
		"RunRounds":   func() impl.Turns { after, _, _ := impl.RunRounds(x, 3); return after },
		"RunRounds 0": func() impl.Turns { after, _, _ := impl.RunRounds(x, 0); return after },
		"NewTurns":    func() impl.Turns { after, _ := impl.NewTurns(7, 4); return after },
	}
	for what, again := range ask {
		want := copyTurns(again())
		first, second := again(), again()
		ruinTurns(first)
		if !sameTurns(second, want) || !sameTurns(again(), want) || !sameTurns(x, someTurns()) {
			t.Errorf("%s: %+v, %+v", what, second, x)
		}
	}
	_, sent, _ := impl.NextRound(x)
	for i := range sent[:cap(sent)] {
		sent[:cap(sent)][i] = 9
	}
	if _, sent, _ := impl.NextRound(x); !slices.Equal(sent, []int{0, 2}) || !sameTurns(x, someTurns()) {
		t.Errorf("%v, %+v", sent, x)
	}
}

// checkOwnLists writes into each list, also behind its length, and looks at the others.
func checkOwnLists(t *testing.T, what string, x impl.Turns, sent []int) {
	t.Helper()
	for i := range x.Queues {
		was, numbers := copyTurns(x), slices.Clone(sent)
		longs := x.Queues[i].Longs
		x.Queues[i].Longs = append(longs, 1, 2, 3)
		for k := range longs {
			longs[k] = -5
		}
		for k := range x.Queues {
			if k != i && !slices.Equal(x.Queues[k].Longs, was.Queues[k].Longs) {
				t.Errorf("%s: queues %d and %d share their Longs", what, i, k)
			}
		}
		if !slices.Equal(sent, numbers) {
			t.Errorf("%s: queue %d shares its Longs with what was sent", what, i)
		}
	}
}

func TestListsOfTheirOwn(t *testing.T) {
	// All queues have one list, or parts of it.
	one := append(make([]int, 0, 50), 6, 7, 8, 9)
	same := turnsOf(6, waits(0), waits(0), waits(0), waits(0))
	for i := range same.Queues {
		same.Queues[i].Longs = one[:i+1]
	}
	was := copyTurns(same)
	put, _ := impl.PutLong(same, 1, 3)
	checkOwnLists(t, "PutLong", put, nil)
	after, sent, _ := impl.NextRound(same)
	checkOwnLists(t, "NextRound", after, sent)
	after, _, _ = impl.RunRounds(same, 2)
	checkOwnLists(t, "RunRounds", after, nil)
	after, _, _ = impl.RunRounds(same, 0)
	checkOwnLists(t, "RunRounds 0", after, nil)
	fresh, _ := impl.NewTurns(6, 4)
	checkOwnLists(t, "NewTurns", fresh, nil)
	if !sameTurns(same, was) || !slices.Equal(one[:50][4:], make([]int, 46)) {
		t.Errorf("written into: %+v", same)
	}
	// One put twice is in each answer on its own.
	put, _ = impl.PutLong(same, 1, 3)
	first, _ := impl.PutLong(put, 1, 1)
	second, _ := impl.PutLong(put, 1, 2)
	if !slices.Equal(first.Queues[1].Longs, []int{6, 7, 3, 1}) || !slices.Equal(second.Queues[1].Longs, []int{6, 7, 3, 2}) {
		t.Errorf("%+v, %+v", first, second)
	}
}
