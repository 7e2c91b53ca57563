package tests

import (
	"math"
	"math/rand"
	"slices"
	"testing"

	"loop.example/g00315/impl"
)

// meets is a contact in the order in which it is told: from, to, start, end, delay.
func meets(from int, to int, start int, end int, delay int) impl.Contact {
	return impl.Contact{From: from, To: to, Start: start, End: end, Delay: delay}
}

// plainPlan asks for the rules of a plan one after another.
func plainPlan(l []impl.Contact) bool {
	for _, c := range l {
		if c.From < 0 || c.From > 7 || c.To < 0 || c.To > 7 || c.From == c.To {
			return false
		}
		if c.Start < 0 || c.Start >= c.End || c.End > 1000 || c.Delay < 0 || c.Delay > 100 {
			return false
		}
	}
	return len(l) <= 20
}

// plainPass is when one who is there at a time is on the other side, if it can be taken.
func plainPass(c impl.Contact, at int) (int, bool) {
	if at >= c.End {
		return 0, false
	}
	if at < c.Start {
		at = c.Start
	}
	return at + c.Delay, true
}

func plainNode(n int) bool { return n >= 0 && n <= 7 }

func plainWhen(at int) bool { return at >= 0 && at <= 1000 }

// plainOver asks whether these are numbers of contacts of the plan.
func plainOver(l []impl.Contact, over []int) bool {
	for _, k := range over {
		if k < 0 || k >= len(l) {
			return false
		}
	}
	return len(over) <= 20
}

// plainArrive goes over the row; the node where it leads, and when.
func plainArrive(l []impl.Contact, from int, at int, over []int) (int, int, bool) {
	for _, k := range over {
		when, ok := plainPass(l[k], at)
		if l[k].From != from || !ok {
			return 0, 0, false
		}
		from, at = l[k].To, when
	}
	return from, at, true
}

// checkArrive asks ArriveBy and UsesOf for what the document tells of a row, as said or not.
func checkArrive(t *testing.T, l []impl.Contact, from int, at int, over []int) (int, bool) {
	t.Helper()
	plan, row := slices.Clone(l), slices.Clone(over)
	want, can, leads := 0, false, true
	asSaid := plainPlan(l) && plainOver(l, over)
	if asSaid && plainNode(from) && plainWhen(at) {
		_, want, can = plainArrive(l, from, at, over)
	}
	for i := range over {
		leads = leads && (!asSaid || i == 0 || l[over[i-1]].To == l[over[i]].From)
	}
	got, ok := impl.ArriveBy(l, from, at, over)
	if got != want || ok != can {
		t.Fatalf("ArriveBy(%v, %d, %d, %v) = %d, %v, not %d, %v", l, from, at, over, got, ok, want, can)
	}
	if uses, ok := impl.UsesOf(l, over); uses != (asSaid && leads) || ok != asSaid {
		t.Fatalf("UsesOf(%v, %v) = %v, %v", l, over, uses, ok)
	}
	if !slices.Equal(l, plan) || !slices.Equal(over, row) {
		t.Fatalf("written into: %v, %v, once %v, %v", l, over, plan, row)
	}
	return got, ok
}

func wantArrive(t *testing.T, l []impl.Contact, from int, at int, over []int, want int) {
	t.Helper()
	if got, ok := checkArrive(t, l, from, at, over); got != want || !ok {
		t.Errorf("ArriveBy(%v, %d, %d, %v) = %d, %v, not %d", l, from, at, over, got, ok, want)
	}
}

func wantNoArrive(t *testing.T, what string, l []impl.Contact, from int, at int, over []int) {
	t.Helper()
	if got, ok := checkArrive(t, l, from, at, over); got != 0 || ok {
		t.Errorf("%s: ArriveBy(%v, %d, %d, %v) = %d, %v", what, l, from, at, over, got, ok)
	}
}

func wantUses(t *testing.T, l []impl.Contact, over []int, want bool) {
	t.Helper()
	checkArrive(t, l, 0, 0, over)
	if uses, ok := impl.UsesOf(l, over); uses != want || !ok {
		t.Errorf("UsesOf(%v, %v) = %v, %v", l, over, uses, ok)
	}
}

func wantNoUses(t *testing.T, what string, l []impl.Contact, over []int) {
	t.Helper()
	wantNoArrive(t, what, l, 0, 0, over)
	if uses, ok := impl.UsesOf(l, over); uses || ok {
		t.Errorf("%s: UsesOf(%v, %v) = %v, %v", what, l, over, uses, ok)
	}
}

// checkOpen asks OpenAt at a time, as said or not.
func checkOpen(t *testing.T, l []impl.Contact, at int) []int {
	t.Helper()
	plan := slices.Clone(l)
	var want []int
	can := plainPlan(l) && plainWhen(at)
	for k, c := range l {
		if can && at >= c.Start && at < c.End {
			want = append(want, k)
		}
	}
	got, ok := impl.OpenAt(l, at)
	if !slices.Equal(got, want) || ok != can {
		t.Fatalf("OpenAt(%v, %d) = %v, %v, not %v, %v", l, at, got, ok, want, can)
	}
	if !slices.Equal(l, plan) {
		t.Fatalf("written into: %v, once %v", l, plan)
	}
	return got
}

// someLate is a plan in which some contacts open late, some end early and some lead round.
func someLate() []impl.Contact {
	return []impl.Contact{
		meets(0, 1, 5, 10, 2), meets(1, 2, 0, 7, 1), meets(1, 2, 20, 30, 1), meets(0, 2, 40, 50, 0),
		meets(2, 0, 10, 60, 5), meets(2, 3, 0, 22, 100), meets(3, 4, 100, 101, 0), meets(4, 3, 0, 1000, 3),
	}
}

// edgeTimes are those at which something of the plan changes, those beside them, and the ends of all times.
func edgeTimes(l []impl.Contact) []int {
	times := []int{math.MinInt, -1000, -1, 0, 1, 500, 999, 1000, 1001, 2000, math.MaxInt}
	for _, c := range l {
		times = append(times, c.Start-1, c.Start, c.End-1, c.End, c.Start+c.Delay, c.End-1+c.Delay)
	}
	slices.Sort(times)
	return slices.Compact(times)
}

func edgeNodes() []int {
	return []int{math.MinInt, -1, 0, 1, 2, 3, 4, 5, 6, 7, 8, 40, math.MaxInt}
}

func someContact(r *rand.Rand, nodes int, until int) impl.Contact {
	start := r.Intn(until)
	from := r.Intn(nodes)
	return meets(from, (from+1+r.Intn(nodes-1))%nodes, start, start+1+r.Intn(until-start), []int{0, 0, 1, 2, 5, 100}[r.Intn(6)])
}

func somePlan(r *rand.Rand, many int, nodes int, until int) []impl.Contact {
	l := make([]impl.Contact, many)
	for i := range l {
		l[i] = someContact(r, nodes, until)
	}
	return l
}

func TestGoodPlans(t *testing.T) {
	for what, l := range map[string][]impl.Contact{
		"nil": nil, "none": {}, "some": someLate(),
		"all of time":     {meets(0, 7, 0, 1000, 0)},
		"the first time":  {meets(7, 0, 0, 1, 100)},
		"the last time":   {meets(7, 6, 999, 1000, 100)},
		"the same twice":  {meets(1, 2, 3, 4, 5), meets(1, 2, 3, 4, 5)},
		"there and back":  {meets(1, 2, 3, 4, 5), meets(2, 1, 3, 4, 5)},
		"MaxContacts":     slices.Repeat([]impl.Contact{meets(0, 1, 0, 1000, 100)}, 20),
		"a Delay beyond":  {meets(0, 1, 900, 1000, 100)},
		"all in disorder": {meets(5, 4, 90, 100, 1), meets(1, 2, 1, 2, 0), meets(0, 3, 50, 70, 9)},
	} {
		if !plainPlan(l) || !impl.GoodPlan(l) {
			t.Errorf("%s: %v isn't good", what, l)
		}
		askEverything(t, l)
	}
}

// wrongContacts break each one rule of a contact.
func wrongContacts() map[string]impl.Contact {
	return map[string]impl.Contact{
		"From -1":            meets(-1, 1, 5, 10, 2),
		"From MaxNodes":      meets(8, 1, 5, 10, 2),
		"From least of all":  meets(math.MinInt, 1, 5, 10, 2),
		"From most of all":   meets(math.MaxInt, 1, 5, 10, 2),
		"To -1":              meets(0, -1, 5, 10, 2),
		"To MaxNodes":        meets(0, 8, 5, 10, 2),
		"To least of all":    meets(0, math.MinInt, 5, 10, 2),
		"To most of all":     meets(0, math.MaxInt, 5, 10, 2),
		"to itself":          meets(0, 0, 5, 10, 2),
		"to itself, at last": meets(7, 7, 5, 10, 2),
		"Start -1":           meets(0, 1, -1, 10, 2),
		"Start least of all": meets(0, 1, math.MinInt, 10, 2),
		"Start End":          meets(0, 1, 10, 10, 2),
		"Start behind End":   meets(0, 1, 11, 10, 2),
		"Start most of all":  meets(0, 1, math.MaxInt, 10, 2),
		"Start MaxWhen":      meets(0, 1, 1000, 1000, 2),
		"both 0":             meets(0, 1, 0, 0, 2),
		"both beyond":        meets(0, 1, 1000, 1001, 2),
		"both below":         meets(0, 1, -2, -1, 2),
		"End 0":              meets(0, 1, 0, 0, 0),
		"End -1":             meets(0, 1, 0, -1, 0),
		"End above MaxWhen":  meets(0, 1, 5, 1001, 2),
		"End least of all":   meets(0, 1, 5, math.MinInt, 2),
		"End most of all":    meets(0, 1, 5, math.MaxInt, 2),
		"Delay -1":           meets(0, 1, 5, 10, -1),
		"Delay 101":          meets(0, 1, 5, 10, 101),
		"Delay least of all": meets(0, 1, 5, 10, math.MinInt),
		"Delay most of all":  meets(0, 1, 5, 10, math.MaxInt),
		"nothing":            {},
	}
}

// wantBadPlan asks all functions at arguments that would do with a good plan.
func wantBadPlan(t *testing.T, what string, l []impl.Contact) {
	t.Helper()
	if plainPlan(l) || impl.GoodPlan(l) {
		t.Errorf("%s: %v is good", what, l)
	}
	wantNoArrive(t, what, l, 0, 0, nil)
	wantNoArrive(t, what, l, 0, 0, []int{0})
	wantNoUses(t, what, l, nil)
	wantNoUses(t, what, l, []int{0})
	if open, ok := impl.OpenAt(l, 0); len(open) != 0 || ok {
		t.Errorf("%s: OpenAt = %v, %v", what, open, ok)
	}
	if times, ok := impl.EarliestFrom(l, 0, 0); len(times) != 0 || ok {
		t.Errorf("%s: EarliestFrom = %v, %v", what, times, ok)
	}
	for _, to := range []int{0, 1} {
		if row, when, ok := impl.RouteTo(l, 0, 0, to); len(row) != 0 || when != 0 || ok {
			t.Errorf("%s: RouteTo %d = %v, %d, %v", what, to, row, when, ok)
		}
		if at, ok := impl.LatestFor(l, 0, to, 2000); at != 0 || ok {
			t.Errorf("%s: LatestFor %d = %d, %v", what, to, at, ok)
		}
	}
	askEverything(t, l)
}

func TestBadPlans(t *testing.T) {
	for what, c := range wrongContacts() {
		wantBadPlan(t, what, []impl.Contact{c})
		wantBadPlan(t, what+", the first", append([]impl.Contact{c}, someLate()...))
		wantBadPlan(t, what+", the last", append(someLate(), c))
		wantBadPlan(t, what+", the last of 20", append(slices.Repeat([]impl.Contact{meets(0, 1, 0, 1000, 0)}, 19), c))
	}
	l := slices.Repeat([]impl.Contact{meets(0, 1, 0, 1000, 0)}, 21)
	wantBadPlan(t, "one more than MaxContacts", l)
	wantBadPlan(t, "many more than MaxContacts", slices.Repeat(l, 40))
}

func TestArriveKnown(t *testing.T) {
	l := someLate()
	for _, x := range []struct {
		from, at int
		over     []int
		want     int
	}{
		{0, 0, []int{0}, 7}, {0, 5, []int{0}, 7}, {0, 6, []int{0}, 8}, {0, 9, []int{0}, 11},
		{0, 0, []int{0, 2}, 21}, {0, 9, []int{0, 2}, 21}, {0, 0, []int{0, 2, 4}, 26}, {0, 0, []int{0, 2, 5}, 121},
		{0, 0, []int{3}, 40}, {0, 45, []int{3}, 45}, {0, 49, []int{3, 4}, 54}, {1, 6, []int{1, 4}, 15},
		{0, 0, []int{0, 2, 4, 3}, 40}, {0, 0, []int{0, 2, 4, 3, 4, 3}, 45}, {0, 0, []int{0, 2, 4, 3, 4, 3, 4}, 50},
		{2, 0, []int{5}, 100}, {2, 0, []int{5, 6}, 100}, {2, 0, []int{5, 6, 7}, 103}, {2, 1, []int{5}, 101},
	} {
		wantArrive(t, l, x.from, x.at, x.over, x.want)
	}
}

func TestEndedCannotBeTaken(t *testing.T) {
	l := someLate()
	wantNoArrive(t, "at End", l, 0, 10, []int{0})
	wantNoArrive(t, "behind End", l, 0, 11, []int{0})
	wantNoArrive(t, "at MaxWhen", l, 0, 1000, []int{0})
	wantNoArrive(t, "the second at End", l, 0, 0, []int{0, 1})
	wantNoArrive(t, "the second behind End", l, 0, 6, []int{0, 1})
	wantNoArrive(t, "the second one time late", l, 2, 1, []int{5, 6})
	wantNoArrive(t, "the third behind End", l, 0, 0, []int{0, 2, 5, 6})
	wantNoArrive(t, "one in the middle", l, 2, 1, []int{5, 6, 7})
	wantNoArrive(t, "round, once too often", l, 0, 0, []int{0, 2, 4, 3, 4, 3, 4, 3})
	for end := 1; end <= impl.MaxWhen; end += 37 {
		l := []impl.Contact{meets(3, 5, end/2, end, end%101)}
		wantArrive(t, l, 3, 0, []int{0}, end/2+end%101)
		wantArrive(t, l, 3, end-1, []int{0}, end-1+end%101)
		wantNoArrive(t, "at End", l, 3, end, []int{0})
	}
}

func TestArriveEdges(t *testing.T) {
	all := []impl.Contact{meets(0, 7, 0, 1000, 0), meets(7, 0, 0, 1000, 100), meets(0, 7, 0, 1, 0), meets(0, 7, 999, 1000, 100)}
	for _, at := range []int{0, 1, 500, 998, 999} {
		wantArrive(t, all, 0, at, []int{0}, at)
		wantArrive(t, all, 7, at, []int{1}, at+100)
		wantArrive(t, all, 0, at, []int{3}, 1099)
		wantArrive(t, all, 0, at, []int{0, 1}, at+100)
	}
	wantArrive(t, all, 0, 0, []int{2}, 0)
	wantNoArrive(t, "the first time gone", all, 0, 1, []int{2})
	for k := range all {
		wantNoArrive(t, "at MaxWhen", all, all[k].From, 1000, []int{k})
	}
	wantNoArrive(t, "from beyond MaxWhen", all, 0, 999, []int{3, 1})
	for _, l := range [][]impl.Contact{nil, {}, all, someLate()} {
		for node := range 8 {
			for _, at := range []int{0, 1, 999, 1000} {
				wantArrive(t, l, node, at, nil, at)
				wantArrive(t, l, node, at, []int{}, at)
			}
		}
	}
}

// roundAndRound leads from 0 to 1 and back, as often as it is long.
func roundAndRound(many int) []int {
	over := make([]int, many)
	for i := range over {
		over[i] = i % 2
	}
	return over
}

func TestRowsAtTheirLimit(t *testing.T) {
	l := []impl.Contact{meets(0, 1, 0, 1000, 7), meets(1, 0, 0, 1000, 11)}
	for many := range 21 {
		wantArrive(t, l, 0, 3, roundAndRound(many), 3+(many+1)/2*7+many/2*11)
		wantUses(t, l, roundAndRound(many), true)
	}
	for _, many := range []int{21, 22, 100} {
		wantNoArrive(t, "a row too long", l, 0, 3, roundAndRound(many))
		wantNoUses(t, "a row too long", l, roundAndRound(many))
	}
	wantNoUses(t, "too long and not leading on", l, make([]int, 21))
	wantNoUses(t, "too long and not of the plan", l, slices.Repeat([]int{-1}, 21))
	row := make([]impl.Contact, 20)
	over := make([]int, 20)
	for i := range row {
		row[i], over[i] = meets(i%8, (i+1)%8, i, 1000, i), i
	}
	wantArrive(t, row, 0, 0, over, 191) // all Delays, and one time of waiting for the second Start
	wantUses(t, row, over, true)
}

func TestArriveWrong(t *testing.T) {
	l := someLate()
	for _, node := range []int{math.MinInt, -1, 8, 9, 256, math.MaxInt} {
		wantNoArrive(t, "no node", l, node, 0, nil)
		wantNoArrive(t, "no node", l, node, 0, []int{0})
	}
	for _, at := range []int{math.MinInt, -1000, -1, 1001, 2000, math.MaxInt} {
		wantNoArrive(t, "no time", l, 0, at, nil)
		wantNoArrive(t, "no time", l, 4, at, []int{7})
	}
	for _, k := range []int{math.MinInt, -1, 8, 19, 20, 21, 256, math.MaxInt} {
		wantNoUses(t, "no contact's number", l, []int{k})
		wantNoUses(t, "no contact's number at last", l, []int{0, 2, k})
		wantNoUses(t, "no contact's number at first", l, []int{k, 0, 2})
		wantNoUses(t, "no contact's number behind what does not lead on", l, []int{0, 0, k})
	}
	wantNoUses(t, "a number where there are no contacts", nil, []int{0})
	wantNoArrive(t, "from another node", l, 1, 0, []int{0})
	wantNoArrive(t, "to the node", l, 1, 6, []int{0})
	wantNoArrive(t, "the same once more", l, 0, 5, []int{0, 0})
	wantNoArrive(t, "from elsewhere", l, 0, 0, []int{0, 5})
	wantNoArrive(t, "back ahead of there", l, 0, 0, []int{4, 3})
	wantNoArrive(t, "at last from elsewhere", l, 0, 0, []int{0, 2, 4, 5})
	wantNoArrive(t, "twice to the same", l, 0, 0, []int{0, 1, 2})
}

func TestUsesKnown(t *testing.T) {
	l := someLate()
	for _, over := range [][]int{nil, {}, {0}, {7}, {0, 1}, {0, 1, 4}, {0, 2, 5, 6, 7}, {6, 7, 6, 7}, {4, 0, 1}, {3, 4, 3, 4}, {1, 5, 6}} {
		wantUses(t, l, over, true)
	}
	for _, over := range [][]int{{0, 0}, {0, 3}, {1, 0}, {0, 1, 2}, {0, 1, 4, 5}, {7, 7}, {5, 4}, {1, 1, 4}, {3, 5, 7}} {
		wantUses(t, l, over, false)
	}
	wantUses(t, nil, nil, true)
	wantUses(t, l, slices.Repeat([]int{0}, 20), false)
}

func TestOpenKnown(t *testing.T) {
	l := someLate()
	for at, want := range map[int][]int{
		0: {1, 5, 7}, 4: {1, 5, 7}, 5: {0, 1, 5, 7}, 6: {0, 1, 5, 7}, 7: {0, 5, 7}, 9: {0, 5, 7}, 10: {4, 5, 7},
		20: {2, 4, 5, 7}, 22: {2, 4, 7}, 49: {3, 4, 7}, 50: {4, 7}, 60: {7}, 100: {6, 7}, 101: {7}, 999: {7}, 1000: {},
	} {
		if got := checkOpen(t, l, at); !slices.Equal(got, want) {
			t.Errorf("OpenAt %d = %v, not %v", at, got, want)
		}
	}
	for at := -2; at <= 1002; at++ {
		checkOpen(t, l, at)
		checkOpen(t, nil, at)
		checkOpen(t, []impl.Contact{meets(0, 1, 0, 1000, 100), meets(0, 1, 0, 1, 0), meets(0, 1, 999, 1000, 0)}, at)
	}
	full := checkOpen(t, slices.Repeat([]impl.Contact{meets(0, 1, 0, 1000, 0)}, 20), 999)
	if len(full) != 20 || full[0] != 0 || full[19] != 19 {
		t.Error(full)
	}
	for _, at := range []int{math.MinInt, -1, 1001, 1100, 2000, math.MaxInt} {
		if got, ok := impl.OpenAt(l, at); len(got) != 0 || ok {
			t.Errorf("OpenAt %d = %v, %v", at, got, ok)
		}
	}
}

func TestRowsMixed(t *testing.T) {
	r := rand.New(rand.NewSource(6))
	came := 0
	for range 3000 {
		l := somePlan(r, 1+r.Intn(20), 2+r.Intn(3), []int{10, 100, 1000}[r.Intn(3)])
		for range 10 {
			from, at := r.Intn(8), r.Intn(60)
			var over []int
			for node := from; len(over) < 4; node = l[over[len(over)-1]].To { // most of them lead on
				over = append(over, r.Intn(len(l)))
				for range 10 {
					if k := r.Intn(len(l)); l[k].From == node {
						over[len(over)-1] = k
					}
				}
			}
			if _, ok := checkArrive(t, l, from, at, over[:r.Intn(5)]); ok {
				came++
			}
		}
	}
	if came < 3000 {
		t.Error("too few rows could be taken:", came)
	}
}
