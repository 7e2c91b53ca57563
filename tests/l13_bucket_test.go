package tests

import (
	"math"
	"math/rand"
	"testing"

	"loop.example/g00315/impl"
)

// plainLimit asks for the rules of a Pace and a Burst.
func plainLimit(pace int, burst int) bool {
	return pace >= 1 && pace <= 50 && burst >= 1 && burst <= 20
}

func plainAskTime(at int) bool {
	return at >= 0 && at <= 1000000
}

func plainGoodBucket(b impl.Bucket) bool {
	return plainLimit(b.Pace, b.Burst) && b.Level >= 0 && b.Level <= b.Pace*b.Burst && plainAskTime(b.Last)
}

// plainLevel lets one after the other leak, time by time, until nothing is left.
func plainLevel(b impl.Bucket, at int) (int, bool) {
	if !plainGoodBucket(b) || !plainAskTime(at) || at < b.Last {
		return 0, false
	}
	level := b.Level
	for now := b.Last; now < at && level > 0; now++ {
		level--
	}
	return level, true
}

// plainAskBucket pours one after the other on what is there, and takes all back where it does not fit.
func plainAskBucket(b impl.Bucket, at int) (impl.Bucket, bool, bool) {
	level, can := plainLevel(b, at)
	if !can {
		return impl.Bucket{}, false, false
	}
	after := impl.Bucket{Pace: b.Pace, Burst: b.Burst, Level: level, Last: at}
	for range b.Pace {
		after.Level++
		if after.Level > b.Pace*b.Burst {
			after.Level = level
			return after, false, true
		}
	}
	return after, true, true
}

// checkBucket asks GoodBucket, LevelAt and AskBucket, as said or not.
func checkBucket(t *testing.T, b impl.Bucket, at int) (impl.Bucket, bool, bool) {
	t.Helper()
	if is := plainGoodBucket(b); impl.GoodBucket(b) != is {
		t.Fatalf("GoodBucket(%+v) is not %v", b, is)
	}
	level, can := plainLevel(b, at)
	if n, ok := impl.LevelAt(b, at); n != level || ok != can {
		t.Fatalf("LevelAt(%+v, %d) = %d, %v, not %d, %v", b, at, n, ok, level, can)
	}
	want, let, _ := plainAskBucket(b, at)
	after, through, ok := impl.AskBucket(b, at)
	if after != want || through != let || ok != can {
		t.Fatalf("AskBucket(%+v, %d) = %+v, %v, %v, not %+v, %v, %v", b, at, after, through, ok, want, let, can)
	}
	if ok && !impl.GoodBucket(after) {
		t.Fatalf("AskBucket(%+v, %d) = %+v: not good", b, at, after)
	}
	return after, through, ok
}

func wantLevel(t *testing.T, b impl.Bucket, at int, level int) {
	t.Helper()
	checkBucket(t, b, at)
	if n, ok := impl.LevelAt(b, at); n != level || !ok {
		t.Errorf("LevelAt(%+v, %d) = %d, %v, not %d", b, at, n, ok, level)
	}
}

// wantThrough names the level once one is let through.
func wantThrough(t *testing.T, b impl.Bucket, at int, level int) impl.Bucket {
	t.Helper()
	checkBucket(t, b, at)
	want := impl.Bucket{Pace: b.Pace, Burst: b.Burst, Level: level, Last: at}
	after, through, ok := impl.AskBucket(b, at)
	if after != want || !through || !ok {
		t.Errorf("AskBucket(%+v, %d) = %+v, %v, %v, not %+v", b, at, after, through, ok, want)
	}
	return after
}

// wantHeldBack names the level where none is let through.
func wantHeldBack(t *testing.T, b impl.Bucket, at int, level int) impl.Bucket {
	t.Helper()
	checkBucket(t, b, at)
	want := impl.Bucket{Pace: b.Pace, Burst: b.Burst, Level: level, Last: at}
	after, through, ok := impl.AskBucket(b, at)
	if after != want || through || !ok {
		t.Errorf("AskBucket(%+v, %d) = %+v, %v, %v, not %+v", b, at, after, through, ok, want)
	}
	return after
}

// wantNoLevel asks for a bucket or a time of which nothing is told.
func wantNoLevel(t *testing.T, what string, b impl.Bucket, at int) {
	t.Helper()
	checkBucket(t, b, at)
	if n, ok := impl.LevelAt(b, at); n != 0 || ok {
		t.Errorf("%s: LevelAt(%+v, %d) = %d, %v", what, b, at, n, ok)
	}
	if after, through, ok := impl.AskBucket(b, at); after != (impl.Bucket{}) || through || ok {
		t.Errorf("%s: AskBucket(%+v, %d) = %+v, %v, %v", what, b, at, after, through, ok)
	}
}

// wantBadBucket asks at times that would do with a good bucket, and at others.
func wantBadBucket(t *testing.T, what string, b impl.Bucket) {
	t.Helper()
	if plainGoodBucket(b) || impl.GoodBucket(b) {
		t.Errorf("%s: %+v is good", what, b)
	}
	for _, at := range append(wrongAskTimes(), 0, 1, 7, 999, 1000, 1000000) {
		wantNoLevel(t, what, b, at)
	}
}

// wrongAskTimes are no times at all.
func wrongAskTimes() []int {
	return []int{-1, 1000001, -1000000, 2000000, math.MinInt, math.MaxInt, math.MinInt + 1, 1 << 32, -1 << 32}
}

// wrongLimits break each one rule of a Pace and a Burst; some are good if their product wraps round.
func wrongLimits() map[string][2]int {
	return map[string][2]int{
		"nothing":            {0, 0},
		"Pace 0":             {0, 5},
		"Pace -1":            {-1, 5},
		"Pace 51":            {51, 5},
		"Pace 51, Burst 1":   {51, 1},
		"Pace least of all":  {math.MinInt, 2},
		"Pace most of all":   {math.MaxInt, 2},
		"Burst 0":            {5, 0},
		"Burst -1":           {5, -1},
		"Burst 21":           {5, 21},
		"Burst 21, Pace 1":   {1, 21},
		"Burst least of all": {2, math.MinInt},
		"Burst most of all":  {2, math.MaxInt},
		"both below 0":       {-5, -5},
		"both too great":     {51, 21},
		"turned round":       {20, 50},
		"together 0":         {1 << 32, 1 << 32},
		"together 1":         {math.MaxInt, math.MaxInt},
	}
}

// eachLimit tells Pace and Burst at their bounds and within.
func eachLimit(tell func(pace int, burst int)) {
	for _, pace := range []int{1, 2, 3, 5, 10, 49, 50} {
		for _, burst := range []int{1, 2, 3, 7, 19, 20} {
			tell(pace, burst)
		}
	}
}

func TestLimitConstants(t *testing.T) {
	if impl.MaxPace != 50 || impl.MaxBurst != 20 {
		t.Error(impl.MaxPace, impl.MaxBurst)
	}
}

func TestNewBucketAndNewCell(t *testing.T) {
	for pace := -2; pace <= 60; pace++ {
		for burst := -2; burst <= 30; burst++ {
			is := plainLimit(pace, burst)
			var bucket impl.Bucket
			var cell impl.Cell
			if is {
				bucket, cell = impl.Bucket{Pace: pace, Burst: burst}, impl.Cell{Pace: pace, Burst: burst}
			}
			if b, ok := impl.NewBucket(pace, burst); b != bucket || ok != is || impl.GoodBucket(b) != is {
				t.Fatalf("NewBucket(%d, %d) = %+v, %v", pace, burst, b, ok)
			}
			if c, ok := impl.NewCell(pace, burst); c != cell || ok != is || impl.GoodCell(c) != is {
				t.Fatalf("NewCell(%d, %d) = %+v, %v", pace, burst, c, ok)
			}
		}
	}
	for what, limit := range wrongLimits() {
		if b, ok := impl.NewBucket(limit[0], limit[1]); b != (impl.Bucket{}) || ok {
			t.Errorf("%s: NewBucket(%v) = %+v, %v", what, limit, b, ok)
		}
		if c, ok := impl.NewCell(limit[0], limit[1]); c != (impl.Cell{}) || ok {
			t.Errorf("%s: NewCell(%v) = %+v, %v", what, limit, c, ok)
		}
	}
}

func TestLevelAtKnown(t *testing.T) {
	b := impl.Bucket{Pace: 5, Burst: 4, Level: 12, Last: 100}
	wantLevel(t, b, 100, 12) // at Last itself nothing has leaked
	wantLevel(t, b, 101, 11)
	wantLevel(t, b, 105, 7)
	wantLevel(t, b, 111, 1)
	wantLevel(t, b, 112, 0) // just dry
	wantLevel(t, b, 113, 0) // and no less than that
	wantLevel(t, b, 1000, 0)
	wantLevel(t, b, 1000000, 0)
	// Pace and Burst do not matter for what leaks.
	for _, limit := range [][2]int{{12, 1}, {1, 12}, {50, 20}, {3, 4}} {
		wantLevel(t, impl.Bucket{Pace: limit[0], Burst: limit[1], Level: 12, Last: 100}, 105, 7)
	}
}

func TestLevelAtItsBounds(t *testing.T) {
	eachLimit(func(pace int, burst int) {
		full := pace * burst
		for _, last := range []int{0, 1, 500, 999999, 1000000} {
			empty := impl.Bucket{Pace: pace, Burst: burst, Level: 0, Last: last}
			brim := impl.Bucket{Pace: pace, Burst: burst, Level: full, Last: last}
			wantLevel(t, empty, last, 0)
			wantLevel(t, empty, 1000000, 0)
			wantLevel(t, brim, last, full)
			wantLevel(t, brim, 1000000, max(0, full-(1000000-last)))
			for long := range full + 3 {
				if last+long <= 1000000 {
					wantLevel(t, brim, last+long, max(0, full-long))
					wantLevel(t, empty, last+long, 0)
				}
			}
		}
	})
}

func TestAskBucketKnown(t *testing.T) {
	b, _ := impl.NewBucket(5, 2)
	b = wantThrough(t, b, 0, 5)
	b = wantThrough(t, b, 0, 10)
	b = wantHeldBack(t, b, 0, 10)
	b = wantHeldBack(t, b, 4, 6) // what leaked by then leaked, though none is let through
	b = wantThrough(t, b, 5, 10)
	b = wantHeldBack(t, b, 6, 9)
	b = wantThrough(t, b, 20, 5)
	b = wantThrough(t, b, 21, 9)
	b = wantHeldBack(t, b, 24, 6)
	b = wantThrough(t, b, 25, 10)
	wantThrough(t, b, 1000000, 5)
}

// TestJustFull has room for just one more, and for one less than that.
func TestJustFull(t *testing.T) {
	eachLimit(func(pace int, burst int) {
		full := pace * burst
		for _, last := range []int{0, 77, 1000000} {
			just := impl.Bucket{Pace: pace, Burst: burst, Level: full - pace, Last: last}
			wantThrough(t, just, last, full)
			more := just
			more.Level++
			wantHeldBack(t, more, last, full-pace+1)
			if last < 1000000 {
				wantThrough(t, more, last+1, full)
				wantHeldBack(t, impl.Bucket{Pace: pace, Burst: burst, Level: full, Last: last}, last+pace-1, full-pace+1)
				wantThrough(t, impl.Bucket{Pace: pace, Burst: burst, Level: full, Last: last}, last+pace, full)
			}
			wantHeldBack(t, impl.Bucket{Pace: pace, Burst: burst, Level: full, Last: last}, last, full)
			wantThrough(t, impl.Bucket{Pace: pace, Burst: burst, Level: 0, Last: last}, last, pace)
		}
	})
}

// TestBurstAndThenPace lets Burst of them through at once, then one with each Pace.
func TestBurstAndThenPace(t *testing.T) {
	eachLimit(func(pace int, burst int) {
		b, _ := impl.NewBucket(pace, burst)
		for k := range burst {
			b = wantThrough(t, b, 0, pace*(k+1))
		}
		for k := range 10 {
			b = wantHeldBack(t, b, pace*k, pace*burst)
			if pace > 1 {
				b = wantHeldBack(t, b, pace*k+pace-1, pace*burst-pace+1)
			}
			b = wantThrough(t, b, pace*(k+1), pace*burst)
		}
	})
}

func TestEveryBucketOfSmall(t *testing.T) {
	for pace := 1; pace <= 4; pace++ {
		for burst := 1; burst <= 4; burst++ {
			for level := -1; level <= pace*burst+1; level++ {
				for last := -1; last <= 5; last++ {
					for at := -2; at <= 25; at++ {
						checkBucket(t, impl.Bucket{Pace: pace, Burst: burst, Level: level, Last: last}, at)
					}
				}
			}
		}
	}
}

func TestBucketsGoodAtTheirBounds(t *testing.T) {
	eachLimit(func(pace int, burst int) {
		for _, level := range []int{0, 1, pace, pace*burst - 1, pace * burst} {
			for _, last := range []int{0, 1, 999999, 1000000} {
				if b := (impl.Bucket{Pace: pace, Burst: burst, Level: level, Last: last}); !impl.GoodBucket(b) {
					t.Errorf("%+v is not good", b)
				}
			}
		}
		for _, level := range []int{-1, pace*burst + 1, -pace, 2*pace*burst + 1, math.MinInt, math.MaxInt} {
			wantBadBucket(t, "Level", impl.Bucket{Pace: pace, Burst: burst, Level: level, Last: 0})
			wantBadBucket(t, "Level", impl.Bucket{Pace: pace, Burst: burst, Level: level, Last: 1000000})
		}
		for _, last := range wrongAskTimes() {
			wantBadBucket(t, "Last", impl.Bucket{Pace: pace, Burst: burst, Level: 0, Last: last})
			wantBadBucket(t, "Last", impl.Bucket{Pace: pace, Burst: burst, Level: pace * burst, Last: last})
		}
	})
	for what, limit := range wrongLimits() {
		for _, level := range []int{0, 1, -1, 5, math.MinInt, math.MaxInt} {
			wantBadBucket(t, what, impl.Bucket{Pace: limit[0], Burst: limit[1], Level: level, Last: 7})
		}
	}
	wantBadBucket(t, "nothing", impl.Bucket{})
}

func TestBucketTimesWrong(t *testing.T) {
	for _, level := range []int{0, 6, 10} {
		b := impl.Bucket{Pace: 5, Burst: 2, Level: level, Last: 100}
		for _, at := range append(wrongAskTimes(), 99, 98, 50, 1, 0) {
			wantNoLevel(t, "no time, or ahead of Last", b, at)
		}
		b.Last = 1000000
		for _, at := range append(wrongAskTimes(), 0, 100, 999999) {
			wantNoLevel(t, "no time, or ahead of Last", b, at)
		}
		wantLevel(t, b, 1000000, level)
		b.Last = 0
		for _, at := range wrongAskTimes() {
			wantNoLevel(t, "no time", b, at)
		}
		wantLevel(t, b, 0, level)
	}
}

func TestBucketsMixed(t *testing.T) {
	r := rand.New(rand.NewSource(13))
	let, held, no := 0, 0, 0
	for range 30000 {
		pace, burst := r.Intn(53)-1, r.Intn(23)-1
		b := impl.Bucket{Pace: pace, Burst: burst, Level: r.Intn(max(pace*burst, 1)+3) - 1, Last: r.Intn(1000003) - 1}
		at := b.Last + r.Intn(pace+60) - 8
		if r.Intn(10) == 0 {
			at = r.Intn(1000003) - 1
		}
		switch _, through, ok := checkBucket(t, b, at); {
		case !ok:
			no++
		case through:
			let++
		default:
			held++
		}
	}
	if let < 5000 || held < 500 || no < 2000 {
		t.Errorf("%d let through, %d not, %d not as said", let, held, no)
	}
}
