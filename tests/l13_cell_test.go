package tests

import (
	"math"
	"math/rand"
	"slices"
	"testing"

	"loop.example/g00315/impl"
)

func plainGoodCell(c impl.Cell) bool {
	return plainLimit(c.Pace, c.Burst) && c.Due >= 0 && c.Due <= 2000000
}

// plainAskCell counts how many times of Pace what is due lies behind the time.
func plainAskCell(c impl.Cell, at int) (impl.Cell, bool, bool) {
	if !plainGoodCell(c) || !plainAskTime(at) {
		return impl.Cell{}, false, false
	}
	behind := c.Due - at
	for range c.Burst - 1 {
		behind -= c.Pace
	}
	if behind > 0 {
		return c, false, true
	}
	if c.Due < at {
		c.Due = at
	}
	c.Due += c.Pace
	return c, true, true
}

// plainTells lets one through if, from each one on that was let through, no more are than Burst and one for each Pace that has passed.
func plainTells(pace int, burst int, times []int) ([]bool, bool) {
	if !plainLimit(pace, burst) || len(times) > 60 || !slices.IsSorted(times) || slices.ContainsFunc(times, func(at int) bool { return !plainAskTime(at) }) {
		return nil, false
	}
	told := make([]bool, len(times))
	for i, at := range times {
		many, fits := 1, true
		for k := i - 1; k >= 0; k-- {
			if told[k] {
				many++
				fits = fits && many*pace <= burst*pace+at-times[k]
			}
		}
		told[i] = fits
	}
	return told, true
}

// checkCell asks GoodCell and AskCell, as said or not.
func checkCell(t *testing.T, c impl.Cell, at int) (impl.Cell, bool, bool) {
	t.Helper()
	if is := plainGoodCell(c); impl.GoodCell(c) != is {
		t.Fatalf("GoodCell(%+v) is not %v", c, is)
	}
	want, let, can := plainAskCell(c, at)
	after, through, ok := impl.AskCell(c, at)
	if after != want || through != let || ok != can {
		t.Fatalf("AskCell(%+v, %d) = %+v, %v, %v, not %+v, %v, %v", c, at, after, through, ok, want, let, can)
	}
	if ok && !impl.GoodCell(after) {
		t.Fatalf("AskCell(%+v, %d) = %+v: not good", c, at, after)
	}
	return after, through, ok
}

// checkSameTold asks a bucket and its cell of the same times, and tells what both told.
func checkSameTold(t *testing.T, b impl.Bucket, c impl.Cell, times []int) []bool {
	t.Helper()
	told := []bool{}
	for _, at := range times {
		first, can := impl.LevelAt(b, at)
		if level := max(c.Due-at, 0); !can || first != level {
			t.Fatalf("at %d: LevelAt(%+v) = %d, %v; due of %+v less now is %d", at, b, first, can, c, level)
		}
		fuller, leaks, ok := checkBucket(t, b, at)
		later, due, too := checkCell(t, c, at)
		if leaks != due || !ok || !too {
			t.Fatalf("at %d: AskBucket(%+v) tells %v, %v, AskCell(%+v) %v, %v", at, b, leaks, ok, c, due, too)
		}
		told, b, c = append(told, leaks), fuller, later
	}
	return told
}

// checkStretches holds how many are let through within each stretch against MostIn.
func checkStretches(t *testing.T, pace int, burst int, times []int, told []bool) {
	t.Helper()
	for i := range times {
		many := 0
		for k := i; k < len(times); k++ {
			if told[k] {
				many++
			}
			most, ok := impl.MostIn(pace, burst, times[k]-times[i])
			if !ok || many > most {
				t.Fatalf("%d, %d: %v: %v: %d from %d to %d, MostIn tells %d, %v", pace, burst, times, told, many, times[i], times[k], most, ok)
			}
		}
	}
}

// checkBothTell asks BothTell, as said or not, and holds it against bucket and cell asked time by time.
func checkBothTell(t *testing.T, pace int, burst int, times []int) []bool {
	t.Helper()
	was := slices.Clone(times)
	want, can := plainTells(pace, burst, times)
	told, ok := impl.BothTell(pace, burst, times)
	if !slices.Equal(told, want) || ok != can {
		t.Fatalf("BothTell(%d, %d, %v) = %v, %v, not %v, %v", pace, burst, times, told, ok, want, can)
	}
	if can {
		b, _ := impl.NewBucket(pace, burst)
		c, _ := impl.NewCell(pace, burst)
		if same := checkSameTold(t, b, c, times); !slices.Equal(told, same) {
			t.Fatalf("BothTell(%d, %d, %v) = %v, time by time %v", pace, burst, times, told, same)
		}
		checkStretches(t, pace, burst, times, told)
	}
	if !slices.Equal(times, was) {
		t.Fatalf("written into: %v, once %v", times, was)
	}
	return told
}

// checkMostIn asks MostIn, as said or not; it counts how often Pace fits into a stretch.
func checkMostIn(t *testing.T, pace int, burst int, long int) {
	t.Helper()
	want, can := 0, plainLimit(pace, burst) && plainAskTime(long)
	if can {
		for want = burst; long-pace*(want-burst) >= pace; want++ {
		}
	}
	if n, ok := impl.MostIn(pace, burst, long); n != want || ok != can {
		t.Fatalf("MostIn(%d, %d, %d) = %d, %v, not %d, %v", pace, burst, long, n, ok, want, can)
	}
}

func wantDue(t *testing.T, c impl.Cell, at int, due int) impl.Cell {
	t.Helper()
	checkCell(t, c, at)
	want := impl.Cell{Pace: c.Pace, Burst: c.Burst, Due: due}
	after, through, ok := impl.AskCell(c, at)
	if after != want || !through || !ok {
		t.Errorf("AskCell(%+v, %d) = %+v, %v, %v, not %+v", c, at, after, through, ok, want)
	}
	return after
}

// wantNotDue asks that none is let through, and nothing changes.
func wantNotDue(t *testing.T, c impl.Cell, at int) {
	t.Helper()
	checkCell(t, c, at)
	if after, through, ok := impl.AskCell(c, at); after != c || through || !ok {
		t.Errorf("AskCell(%+v, %d) = %+v, %v, %v", c, at, after, through, ok)
	}
}

// wantNoCell asks for a cell or a time of which nothing is told.
func wantNoCell(t *testing.T, what string, c impl.Cell, at int) {
	t.Helper()
	checkCell(t, c, at)
	if after, through, ok := impl.AskCell(c, at); after != (impl.Cell{}) || through || ok {
		t.Errorf("%s: AskCell(%+v, %d) = %+v, %v, %v", what, c, at, after, through, ok)
	}
}

func wantBadCell(t *testing.T, what string, c impl.Cell) {
	t.Helper()
	if plainGoodCell(c) || impl.GoodCell(c) {
		t.Errorf("%s: %+v is good", what, c)
	}
	for _, at := range append(wrongAskTimes(), 0, 1, 7, 1000, 1000000) {
		wantNoCell(t, what, c, at)
	}
}

// wantTold writes + for each one that is let through, and - for the others.
func wantTold(t *testing.T, pace int, burst int, times []int, signs string) {
	t.Helper()
	checkBothTell(t, pace, burst, times)
	told, ok := impl.BothTell(pace, burst, times)
	got := ""
	for _, through := range told {
		if through {
			got += "+"
		} else {
			got += "-"
		}
	}
	if got != signs || !ok {
		t.Errorf("BothTell(%d, %d, %v) = %s, %v, not %s", pace, burst, times, got, ok, signs)
	}
}

func wantNotTold(t *testing.T, what string, pace int, burst int, times []int) {
	t.Helper()
	checkBothTell(t, pace, burst, times)
	if told, ok := impl.BothTell(pace, burst, times); len(told) != 0 || ok {
		t.Errorf("%s: BothTell(%d, %d, %v) = %v, %v", what, pace, burst, times, told, ok)
	}
}

func wantMost(t *testing.T, pace int, burst int, long int, want int) {
	t.Helper()
	checkMostIn(t, pace, burst, long)
	if n, ok := impl.MostIn(pace, burst, long); n != want || !ok {
		t.Errorf("MostIn(%d, %d, %d) = %d, %v, not %d", pace, burst, long, n, ok, want)
	}
}

// anyTimes do not fall; they go on by up to so much each.
func anyTimes(r *rand.Rand, many int, from int, on int) []int {
	times := make([]int, many)
	for i := range times {
		from += r.Intn(on + 1)
		times[i] = from
	}
	return times
}

func TestAskCellKnown(t *testing.T) {
	c, _ := impl.NewCell(5, 2)
	c = wantDue(t, c, 0, 5)
	c = wantDue(t, c, 0, 10)
	wantNotDue(t, c, 0)
	wantNotDue(t, c, 4)
	c = wantDue(t, c, 5, 15)
	wantNotDue(t, c, 6)
	c = wantDue(t, c, 20, 25)
	c = wantDue(t, c, 21, 30)
	wantNotDue(t, c, 24)
	c = wantDue(t, c, 25, 35)
	c = wantDue(t, c, 1000000, 1000005)
	// A cell has no Last: it may be asked of times that fall.
	wantNotDue(t, c, 0)
	wantNotDue(t, c, 999999)
	wantDue(t, c, 1000000, 1000010)
	wantDue(t, impl.Cell{Pace: 5, Burst: 2, Due: 5}, 0, 10)
}

// TestJustDue has what is due just when one may still be let through, and one later.
func TestJustDue(t *testing.T) {
	eachLimit(func(pace int, burst int) {
		for _, at := range []int{0, 1, 77, 999999, 1000000} {
			due := at + pace*(burst-1)
			wantDue(t, impl.Cell{Pace: pace, Burst: burst, Due: due}, at, due+pace)
			wantNotDue(t, impl.Cell{Pace: pace, Burst: burst, Due: due + 1}, at)
			if due > at {
				wantDue(t, impl.Cell{Pace: pace, Burst: burst, Due: due - 1}, at, due-1+pace)
			}
			wantDue(t, impl.Cell{Pace: pace, Burst: burst, Due: at}, at, at+pace)
			wantDue(t, impl.Cell{Pace: pace, Burst: burst, Due: 0}, at, at+pace)
			wantNotDue(t, impl.Cell{Pace: pace, Burst: burst, Due: 2000000}, at)
			if at > 0 {
				wantDue(t, impl.Cell{Pace: pace, Burst: burst, Due: at - 1}, at, at+pace)
			}
		}
	})
}

func TestEveryCellOfSmall(t *testing.T) {
	for pace := 0; pace <= 4; pace++ {
		for burst := 0; burst <= 4; burst++ {
			for due := -2; due <= 30; due++ {
				for at := -2; at <= 30; at++ {
					checkCell(t, impl.Cell{Pace: pace, Burst: burst, Due: due}, at)
				}
			}
		}
	}
}

func TestCellsGoodAtTheirBounds(t *testing.T) {
	wrongDues := []int{-1, 2000001, -2000000, 4000000, math.MinInt, math.MaxInt}
	eachLimit(func(pace int, burst int) {
		for _, due := range []int{0, 1, 1000000, 1000001, 1999999, 2000000} {
			c := impl.Cell{Pace: pace, Burst: burst, Due: due}
			if !impl.GoodCell(c) {
				t.Errorf("%+v is not good", c)
			}
			for _, at := range wrongAskTimes() {
				wantNoCell(t, "no time", c, at)
			}
		}
		for _, due := range wrongDues {
			wantBadCell(t, "Due", impl.Cell{Pace: pace, Burst: burst, Due: due})
		}
	})
	for what, limit := range wrongLimits() {
		for _, due := range append(wrongDues, 0, 1, 2000000) {
			wantBadCell(t, what, impl.Cell{Pace: limit[0], Burst: limit[1], Due: due})
		}
	}
	wantBadCell(t, "nothing", impl.Cell{})
}

func TestBothTellKnown(t *testing.T) {
	wantTold(t, 5, 2, []int{0, 0, 0, 4, 5, 6, 20}, "++--+-+")
	wantTold(t, 5, 1, []int{0, 4, 5, 9, 10, 16, 20, 21}, "+-+-++-+")
	wantTold(t, 1, 1, []int{0, 0, 1, 1, 2, 2, 5, 5}, "+-+-+-+-")
	wantTold(t, 1, 3, []int{7, 7, 7, 7, 8, 8, 9, 9}, "+++-+-+-")
	wantTold(t, 10, 3, []int{100, 101, 102, 103, 109, 110, 111, 140, 140, 140, 140}, "+++--+-+++-")
	wantTold(t, 50, 2, []int{0, 25, 49, 50, 99, 100}, "++-+-+")
	// Asked in vain, nobody has to wait longer for that.
	wantTold(t, 5, 1, []int{0, 1, 1, 1, 2, 3, 4, 5}, "+------+")
	wantTold(t, 5, 1, []int{0, 5}, "++")
	// Who comes late gains nothing beyond Burst.
	wantTold(t, 5, 2, []int{1000, 1000, 1000, 1000000, 1000000, 1000000}, "++-++-")
}

func TestBothTellAtItsBounds(t *testing.T) {
	eachLimit(func(pace int, burst int) {
		wantTold(t, pace, burst, nil, "")
		wantTold(t, pace, burst, []int{}, "")
		for _, at := range []int{0, 1, 999999, 1000000} {
			wantTold(t, pace, burst, []int{at}, "+")
			signs := slices.Concat(slices.Repeat([]byte("+"), burst), slices.Repeat([]byte("-"), 60-burst))
			wantTold(t, pace, burst, slices.Repeat([]int{at}, 60), string(signs))
		}
		if told, ok := impl.BothTell(pace, burst, []int{}); len(told) != 0 || !ok {
			t.Errorf("BothTell of no times: %v, %v", told, ok)
		}
		// One with each Pace is always let through, and always just so, once Burst went first.
		steady := make([]int, 60)
		for i := range steady {
			steady[i] = pace * max(0, i-burst+1)
		}
		wantTold(t, pace, burst, steady, string(slices.Repeat([]byte("+"), 60)))
		if pace > 1 {
			early := slices.Clone(steady)
			early[59]--
			wantTold(t, pace, burst, early, string(slices.Repeat([]byte("+"), 59))+"-")
		}
		wantTold(t, pace, burst, []int{0, 1000000}, "++")
	})
}

func TestBothTellWrong(t *testing.T) {
	eachLimit(func(pace int, burst int) {
		for _, at := range wrongAskTimes() {
			wantNotTold(t, "no time", pace, burst, []int{at})
			wantNotTold(t, "no time at first", pace, burst, []int{at, 5, 6})
			wantNotTold(t, "no time at last", pace, burst, []int{0, 5, at})
			wantNotTold(t, "no time, 60", pace, burst, append(make([]int, 59), at))
		}
		wantNotTold(t, "falling", pace, burst, []int{1, 0})
		wantNotTold(t, "falling at last", pace, burst, []int{0, 0, 7, 7, 6})
		wantNotTold(t, "falling at first", pace, burst, []int{7, 6, 8, 9})
		wantNotTold(t, "falling far", pace, burst, []int{0, 1000000, 0})
		// Also where none was let through at the time ahead.
		wantNotTold(t, "falling behind many", pace, burst, append(slices.Repeat([]int{9}, 40), 8))
		wantNotTold(t, "61 times", pace, burst, make([]int, 61))
		wantNotTold(t, "61 times", pace, burst, anyTimes(rand.New(rand.NewSource(1)), 61, 0, 100))
		wantNotTold(t, "many times", pace, burst, make([]int, 5000))
	})
	for what, limit := range wrongLimits() {
		for _, times := range [][]int{nil, {}, {0}, {0, 5, 20}, make([]int, 60), make([]int, 61), {-1}} {
			wantNotTold(t, what, limit[0], limit[1], times)
		}
	}
}

// TestSameToldOfAllSmall asks of all rows of times that do not fall, up to five of them.
func TestSameToldOfAllSmall(t *testing.T) {
	var next func(pace int, burst int, times []int)
	next = func(pace int, burst int, times []int) {
		checkBothTell(t, pace, burst, times)
		if len(times) == 5 {
			return
		}
		first := 0
		if len(times) > 0 {
			first = times[len(times)-1]
		}
		for at := first; at <= 8; at++ {
			next(pace, burst, append(slices.Clip(times), at))
		}
	}
	for pace := 1; pace <= 4; pace++ {
		for burst := 1; burst <= 3; burst++ {
			next(pace, burst, nil)
		}
	}
}

func TestSameToldMixed(t *testing.T) {
	r := rand.New(rand.NewSource(131))
	let, held := 0, 0
	for range 3000 {
		pace, burst := 1+r.Intn(50), 1+r.Intn(20)
		times := anyTimes(r, r.Intn(61), r.Intn(1000), r.Intn(2*pace))
		for _, through := range checkBothTell(t, pace, burst, times) {
			if through {
				let++
			} else {
				held++
			}
		}
		if len(times) > 1 && r.Intn(4) == 0 {
			i, k := r.Intn(len(times)), r.Intn(len(times))
			times[i], times[k] = times[k], times[i]
			checkBothTell(t, pace, burst, times)
		}
	}
	if let < 10000 || held < 10000 {
		t.Errorf("%d let through, %d not", let, held)
	}
}

// TestSameToldFromAnywhere begins with a bucket that is not new, and the cell of which what is due less now is its level.
func TestSameToldFromAnywhere(t *testing.T) {
	r := rand.New(rand.NewSource(1313))
	for range 3000 {
		pace, burst := 1+r.Intn(50), 1+r.Intn(20)
		b := impl.Bucket{Pace: pace, Burst: burst, Level: r.Intn(pace*burst + 1), Last: r.Intn(1000001)}
		c := impl.Cell{Pace: pace, Burst: burst, Due: b.Last + b.Level}
		times := slices.DeleteFunc(anyTimes(r, 200, b.Last, 2*pace), func(at int) bool { return at > 1000000 })
		checkSameTold(t, b, c, times)
	}
}

func TestMostInKnown(t *testing.T) {
	wantMost(t, 5, 2, 12, 4)
	wantMost(t, 5, 2, 0, 2)
	wantMost(t, 5, 2, 4, 2)
	wantMost(t, 5, 2, 5, 3)
	wantMost(t, 5, 2, 9, 3)
	wantMost(t, 5, 2, 10, 4)
	wantMost(t, 1, 1, 0, 1)
	wantMost(t, 1, 1, 1000000, 1000001)
	wantMost(t, 1, 20, 1000000, 1000020)
	wantMost(t, 50, 20, 1000000, 20020)
	wantMost(t, 50, 1, 49, 1)
	wantMost(t, 50, 1, 50, 2)
	wantMost(t, 3, 7, 1000000, 333340)
	wantMost(t, 7, 3, 999999, 142860)
	for pace := -1; pace <= 52; pace++ {
		for burst := -1; burst <= 22; burst++ {
			for long := -2; long <= 110; long++ {
				checkMostIn(t, pace, burst, long)
			}
		}
	}
}

func TestMostInWrong(t *testing.T) {
	eachLimit(func(pace int, burst int) {
		for _, long := range wrongAskTimes() {
			if n, ok := impl.MostIn(pace, burst, long); n != 0 || ok {
				t.Errorf("MostIn(%d, %d, %d) = %d, %v", pace, burst, long, n, ok)
			}
		}
		wantMost(t, pace, burst, 0, burst)
		checkMostIn(t, pace, burst, 1000000)
	})
	for what, limit := range wrongLimits() {
		for _, long := range append(wrongAskTimes(), 0, 1, 5, 1000000) {
			if n, ok := impl.MostIn(limit[0], limit[1], long); n != 0 || ok {
				t.Errorf("%s: MostIn(%v, %d) = %d, %v", what, limit, long, n, ok)
			}
		}
	}
}

// TestAsManyAsMostIn asks again and again at each time of a stretch: just as many are let through as MostIn tells.
func TestAsManyAsMostIn(t *testing.T) {
	eachLimit(func(pace int, burst int) {
		b, _ := impl.NewBucket(pace, burst)
		c, _ := impl.NewCell(pace, burst)
		many, through := 0, false
		for long := range 4*pace + 3 {
			for range burst + 1 {
				b, through, _ = impl.AskBucket(b, 1000+long)
				if through {
					many++
				}
				after, due, _ := impl.AskCell(c, 1000+long)
				if due != through {
					t.Fatalf("%d, %d: at %d: %v, %v", pace, burst, 1000+long, through, due)
				}
				c = after
			}
			wantMost(t, pace, burst, long, many)
		}
	})
}

func TestTimesBehindTheirLength(t *testing.T) {
	for _, behind := range []int{0, 20, 21, -1, 5000000, math.MinInt} {
		all := []int{0, 0, 0, 4, 5, 6, 20, behind, behind}
		was := slices.Clone(all)
		wantTold(t, 5, 2, all[:7], "++--+-+")
		wantTold(t, 5, 2, all[:3], "++-")
		wantTold(t, 5, 2, all[:0], "")
		if !slices.Equal(all, was) {
			t.Errorf("written behind: %v, once %v", all, was)
		}
	}
	long := make([]int, 100)
	wantTold(t, 1, 20, long[:22], "++++++++++++++++++++--")
	wantNotTold(t, "61 times", 1, 20, long[:61])
}

func TestToldNewMemory(t *testing.T) {
	times := append(make([]int, 0, 70), 0, 0, 0, 4, 5, 6, 20)
	want := []bool{true, true, false, false, true, false, true}
	first, _ := impl.BothTell(5, 2, times)
	second, _ := impl.BothTell(5, 2, times)
	spoilt := first[:cap(first)]
	for i := range spoilt {
		spoilt[i] = i >= len(want) || !want[i]
	}
	third, ok := impl.BothTell(5, 2, times)
	if !slices.Equal(second, want) || !slices.Equal(third, want) || !ok {
		t.Errorf("%v, %v, %v", second, third, ok)
	}
	if !slices.Equal(times, []int{0, 0, 0, 4, 5, 6, 20}) || !slices.Equal(times[:70][7:], make([]int, 63)) {
		t.Errorf("%v", times[:70])
	}
	// What was once made is not what is asked later: each is a value of its own.
	b, _ := impl.NewBucket(5, 2)
	c, _ := impl.NewCell(5, 2)
	impl.AskBucket(b, 0)
	impl.AskCell(c, 0)
	if b != (impl.Bucket{Pace: 5, Burst: 2}) || c != (impl.Cell{Pace: 5, Burst: 2}) {
		t.Errorf("%+v, %+v", b, c)
	}
}

func TestCellsMixed(t *testing.T) {
	r := rand.New(rand.NewSource(132))
	let, held, no := 0, 0, 0
	for range 30000 {
		c := impl.Cell{Pace: r.Intn(53) - 1, Burst: r.Intn(23) - 1, Due: r.Intn(1001003) - 1}
		at := c.Due - r.Intn(1200) + 100
		if r.Intn(10) == 0 {
			c.Due, at = r.Intn(2000003)-1, r.Intn(1000003)-1
		}
		switch _, through, ok := checkCell(t, c, at); {
		case !ok:
			no++
		case through:
			let++
		default:
			held++
		}
	}
	if let < 2000 || held < 2000 || no < 1000 {
		t.Errorf("%d let through, %d not, %d not as said", let, held, no)
	}
}
