package tests

import (
	"math"
	"math/rand"
	"slices"
	"strings"
	"testing"

	"loop.example/g00315/impl"
)

// pairing reads the wants of each left one from digits: "01 - 2" are three, of whom the second wants nobody.
func pairing(right int, text string) impl.Pairing {
	p := impl.Pairing{Right: right}
	for _, digits := range strings.Fields(text) {
		var wants []int
		for _, digit := range strings.Trim(digits, "-") {
			wants = append(wants, int(digit-'0'))
		}
		p.Left, p.Wants = p.Left+1, append(p.Wants, wants)
	}
	return p
}

func copyPairing(p impl.Pairing) impl.Pairing {
	p.Wants = slices.Clone(p.Wants)
	for i, wants := range p.Wants {
		p.Wants[i] = slices.Clone(wants)
	}
	return p
}

func samePairing(a impl.Pairing, b impl.Pairing) bool {
	return a.Left == b.Left && a.Right == b.Right && sameWays(a.Wants, b.Wants)
}

// plainGoodPairing asks for the rules of pairings one after another.
func plainGoodPairing(p impl.Pairing) bool {
	if p.Left < 1 || p.Left > 8 || p.Right < 1 || p.Right > 8 || len(p.Wants) != p.Left {
		return false
	}
	for _, wants := range p.Wants {
		if !plainRising(wants, p.Right) {
			return false
		}
	}
	return true
}

// plainMatch holds each left one that has somebody against its wants, and against all others.
func plainMatch(p impl.Pairing, match []int) bool {
	for i, right := range match {
		if right != -1 && !slices.Contains(p.Wants[i], right) {
			return false
		}
		for j, other := range match {
			if i != j && right != -1 && right == other {
				return false
			}
		}
	}
	return true
}

// plainGiven tries all rows from a left one on, those by whom it wants first ahead of the others, in which nobody is taken twice; nothing is kept of the rows that led nowhere.
func plainGiven(p impl.Pairing, match []int, left int, taken int) ([]int, bool) {
	for _, right := range p.Wants[left] {
		if taken>>right&1 == 1 {
			continue
		}
		given := slices.Clone(match)
		given[left] = right
		has := slices.Index(match, right)
		if has < 0 {
			return given, true
		}
		if given, ok := plainGiven(p, given, has, taken|1<<right); ok {
			return given, true
		}
	}
	return nil, false
}

func plainImproved(p impl.Pairing, match []int) ([]int, bool) {
	for left, right := range match {
		if right == -1 {
			if given, ok := plainGiven(p, match, left, 0); ok {
				return given, true
			}
		}
	}
	return nil, false
}

func noPairs(p impl.Pairing) []int {
	return slices.Repeat([]int{-1}, p.Left)
}

func plainMatchAll(p impl.Pairing) []int {
	match := noPairs(p)
	for {
		better, ok := plainImproved(p, match)
		if !ok {
			return match
		}
		match = better
	}
}

// plainMostPairs tries all matches of the left ones from one on: how many pairs there are at most.
func plainMostPairs(p impl.Pairing, left int, taken int) int {
	if left == p.Left {
		return 0
	}
	most := plainMostPairs(p, left+1, taken)
	for _, right := range p.Wants[left] {
		if taken>>right&1 == 0 {
			most = max(most, 1+plainMostPairs(p, left+1, taken|1<<right))
		}
	}
	return most
}

func pairsIn(match []int) int {
	many := 0
	for _, right := range match {
		if right >= 0 {
			many++
		}
	}
	return many
}

// checkMatch asks IsMatch and ImproveMatch, as said or not.
func checkMatch(t *testing.T, p impl.Pairing, match []int) ([]int, bool) {
	t.Helper()
	was, row := copyPairing(p), slices.Clone(match)
	can := plainGoodPairing(p) && len(match) == p.Left
	want := can && plainMatch(p, match)
	is, ok := impl.IsMatch(p, match)
	if is != want || ok != can {
		t.Fatalf("IsMatch(%v, %v) = %v, %v, not %v, %v", p, match, is, ok, want, can)
	}
	var given []int
	if want {
		given, want = plainImproved(p, match)
	}
	better, ok := impl.ImproveMatch(p, match)
	if !slices.Equal(better, given) || ok != want {
		t.Fatalf("ImproveMatch(%v, %v) = %v, %v, not %v, %v", p, match, better, ok, given, want)
	}
	if !samePairing(p, was) || !slices.Equal(match, row) {
		t.Fatalf("written into: %v, %v, once %v, %v", p, match, was, row)
	}
	return better, ok
}

// checkMatchAll asks GoodPairing and MatchAll, as said or not, and ImproveMatch as often as it can be.
func checkMatchAll(t *testing.T, p impl.Pairing) []int {
	t.Helper()
	was := copyPairing(p)
	can := plainGoodPairing(p)
	var want []int
	if can {
		want = plainMatchAll(p)
	}
	if ok := impl.GoodPairing(p); ok != can {
		t.Fatalf("GoodPairing(%v) = %v", p, ok)
	}
	match, ok := impl.MatchAll(p)
	if !slices.Equal(match, want) || ok != can {
		t.Fatalf("MatchAll(%v) = %v, %v, not %v, %v", p, match, ok, want, can)
	}
	if can {
		checkPairByPair(t, p, match)
	}
	if !samePairing(p, was) {
		t.Fatalf("written into: %v, once %v", p, was)
	}
	return match
}

// checkPairByPair asks the program alone: each time one pair more, who has somebody keeps somebody, and at last the match is that of MatchAll, which cannot be improved.
func checkPairByPair(t *testing.T, p impl.Pairing, want []int) {
	t.Helper()
	match, many := noPairs(p), 0
	for better, ok := checkMatch(t, p, match); ok; better, ok = checkMatch(t, p, match) {
		for left := range match {
			if match[left] != -1 && better[left] == -1 {
				t.Fatalf("ImproveMatch(%v, %v) = %v", p, match, better)
			}
		}
		match, many = better, many+1
		if is, ok := impl.IsMatch(p, match); !is || !ok || pairsIn(match) != many {
			t.Fatalf("%v: %v after %d: IsMatch tells %v, %v", p, match, many, is, ok)
		}
	}
	if !slices.Equal(match, want) {
		t.Fatalf("%v: pair by pair %v, MatchAll tells %v", p, match, want)
	}
}

// askOfPairing asks everything of this pairing: matches, rows that are none, and lists for a cover.
func askOfPairing(t *testing.T, p impl.Pairing) {
	t.Helper()
	match := checkMatchAll(t, p)
	checkReachedSides(t, p)
	for _, row := range [][]int{nil, {}, {-1}, {0}, noPairs(impl.Pairing{Left: 8}), make([]int, 9), match, append(slices.Clone(match), -1)} {
		checkMatch(t, p, row)
	}
	for left := range match {
		row := slices.Clone(match)
		for _, right := range []int{math.MinInt, -2, -1, 0, p.Right - 1, p.Right, math.MaxInt} {
			row[left] = right
			checkMatch(t, p, row)
		}
		checkMatch(t, p, slices.Delete(row, left, left+1))
	}
	some := [][]int{nil, {}, {0}, {0, 1}, {-1}, {1, 0}, {0, 0}, {p.Left - 1}, {p.Right - 1}, {p.Left}, {p.Right}, {0, 1, 2, 3, 4, 5, 6, 7}}
	for _, left := range some {
		for _, right := range some {
			checkCover(t, p, left, right)
		}
	}
}

func wantMatchAll(t *testing.T, p impl.Pairing, want ...int) {
	t.Helper()
	if match := checkMatchAll(t, p); !slices.Equal(match, want) {
		t.Errorf("MatchAll(%v) = %v, not %v", p, match, want)
	}
	if _, ok := impl.MatchAll(p); !ok {
		t.Errorf("MatchAll(%v) tells false", p)
	}
}

func wantMatch(t *testing.T, p impl.Pairing, want bool, match ...int) {
	t.Helper()
	checkMatch(t, p, match)
	if is, ok := impl.IsMatch(p, match); is != want || !ok {
		t.Errorf("IsMatch(%v, %v) = %v, %v, not %v", p, match, is, ok, want)
	}
}

func wantBetter(t *testing.T, p impl.Pairing, match []int, want ...int) {
	t.Helper()
	if better, ok := checkMatch(t, p, match); !slices.Equal(better, want) || !ok {
		t.Errorf("ImproveMatch(%v, %v) = %v, %v, not %v", p, match, better, ok, want)
	}
}

func wantNoBetter(t *testing.T, what string, p impl.Pairing, match ...int) {
	t.Helper()
	if better, ok := checkMatch(t, p, match); len(better) != 0 || ok {
		t.Errorf("%s: ImproveMatch(%v, %v) = %v, %v", what, p, match, better, ok)
	}
}

// wantNotPaired asks for a pairing or a row of which IsMatch tells nothing, and ImproveMatch neither.
func wantNotPaired(t *testing.T, what string, p impl.Pairing, match []int) {
	t.Helper()
	wantNoBetter(t, what, p, match...)
	if is, ok := impl.IsMatch(p, match); is || ok {
		t.Errorf("%s: IsMatch(%v, %v) = %v, %v", what, p, match, is, ok)
	}
}

// wantBadPairing asks for a pairing of which nobody tells anything.
func wantBadPairing(t *testing.T, what string, p impl.Pairing) {
	t.Helper()
	if impl.GoodPairing(p) {
		t.Errorf("%s: %v is good", what, p)
	}
	if match, ok := impl.MatchAll(p); len(match) != 0 || ok {
		t.Errorf("%s: MatchAll(%v) = %v, %v", what, p, match, ok)
	}
	if left, right, ok := impl.CoverOf(p); len(left) != 0 || len(right) != 0 || ok {
		t.Errorf("%s: CoverOf(%v) = %v, %v, %v", what, p, left, right, ok)
	}
	if short, ok := impl.ShortOf(p); len(short) != 0 || ok {
		t.Errorf("%s: ShortOf(%v) = %v, %v", what, p, short, ok)
	}
	for _, many := range []int{0, 1, len(p.Wants), min(max(p.Left, 0), 20), 8, 9} {
		wantNotPaired(t, what, p, slices.Repeat([]int{-1}, many))
	}
	for _, some := range [][]int{nil, {}, {0}} {
		wantNoCover(t, what, p, some, nil)
		wantNoCover(t, what, p, nil, some)
	}
	askOfPairing(t, p)
}

// someWants has a right one that two lefts want alone, so that one of them has none.
func someWants() impl.Pairing {
	return pairing(3, "01 0 0")
}

// wantsInARow has one more pair only where each of them takes the next one.
func wantsInARow() impl.Pairing {
	return pairing(8, "01 12 23 34 45 56 67 0")
}

// wantsAllRound has as many rights as lefts, who all want all.
func wantsAllRound(many int) impl.Pairing {
	return pairing(many, strings.Repeat("01234567"[:many]+" ", many))
}

func anyPairing(r *rand.Rand, left int, right int, often int) impl.Pairing {
	p := impl.Pairing{Left: left, Right: right, Wants: make([][]int, left)}
	for i := range p.Wants {
		for k := range right {
			if r.Intn(8) < often {
				p.Wants[i] = append(p.Wants[i], k)
			}
		}
	}
	return p
}

// eachPairing tells all pairings of so many on each side.
func eachPairing(left int, right int, tell func(impl.Pairing)) {
	for wants := range 1 << (left * right) {
		p := impl.Pairing{Left: left, Right: right}
		for i := range left {
			p.Wants = append(p.Wants, chosen(wants>>(i*right)&(1<<right-1)))
		}
		tell(p)
	}
}

func TestAllGoTogether(t *testing.T) {
	wantMatchAll(t, pairing(2, "0 1"), 0, 1)
	wantMatchAll(t, pairing(2, "1 0"), 1, 0)
	wantMatchAll(t, pairing(2, "01 01"), 1, 0)
	wantMatchAll(t, pairing(3, "2 0 1"), 2, 0, 1)
	wantMatchAll(t, pairing(3, "012 012 012"), 2, 1, 0)
	wantMatchAll(t, pairing(4, "3 2"), 3, 2)
	wantMatchAll(t, pairing(3, "01 02 0"), 1, 2, 0)
	wantMatchAll(t, pairing(3, "012 01 0"), 2, 1, 0)
	wantMatchAll(t, pairing(3, "0 01 012"), 0, 1, 2)
}

func TestSomeHaveNone(t *testing.T) {
	wantMatchAll(t, someWants(), 1, 0, -1)
	wantMatchAll(t, pairing(3, "0 0 01"), 0, -1, 1)
	wantMatchAll(t, pairing(3, "0 01 0"), 0, 1, -1)
	wantMatchAll(t, pairing(1, "0 0 0"), 0, -1, -1)
	wantMatchAll(t, pairing(3, "- 0 -"), -1, 0, -1)
	wantMatchAll(t, pairing(2, "01 01 01"), 1, 0, -1)
	wantMatchAll(t, pairing(4, "12 2 1 12 03"), 1, 2, -1, -1, 0)
	// As many rights as lefts, but three of these want only two.
	wantMatchAll(t, pairing(4, "01 01 01 0123"), 1, 0, -1, 2)
}

func TestARowChanges(t *testing.T) {
	wantMatchAll(t, wantsInARow(), 1, 2, 3, 4, 5, 6, 7, 0)
	wantBetter(t, wantsInARow(), []int{0, 1, 2, 3, 4, 5, 6, -1}, 1, 2, 3, 4, 5, 6, 7, 0)
	wantNoBetter(t, "nobody free at the end of the row", pairing(7, "01 12 23 34 45 56 6 0"), 0, 1, 2, 3, 4, 5, 6, -1)
	// The row ends where somebody is free, the others keep theirs.
	wantBetter(t, wantsInARow(), []int{0, 1, 2, -1, 4, 5, 6, -1}, 0, 1, 2, 3, 4, 5, 6, -1)
	wantBetter(t, pairing(4, "01 12 23 0"), []int{0, 1, -1, -1}, 0, 1, 2, -1)
	wantBetter(t, pairing(4, "01 12 2 0"), []int{0, -1, 2, -1}, 0, 1, 2, -1)
	wantBetter(t, pairing(4, "013 12 2 0"), []int{0, 1, 2, -1}, 3, 1, 2, 0)
	// A row that leads nowhere changes nobody, and the next one is gone instead.
	wantBetter(t, pairing(4, "01 1 23 02"), []int{0, 1, 2, -1}, 0, 1, 3, 2)
	wantBetter(t, pairing(3, "0 012 1"), []int{0, 1, -1}, 0, 2, 1)
}

func TestTheFirstThatCan(t *testing.T) {
	wantBetter(t, pairing(3, "0 1 2"), []int{-1, -1, -1}, 0, -1, -1)
	wantBetter(t, pairing(3, "0 1 2"), []int{0, -1, -1}, 0, 1, -1)
	wantBetter(t, pairing(3, "0 1 2"), []int{-1, 1, -1}, 0, 1, -1)
	wantBetter(t, pairing(3, "- 1 2"), []int{-1, -1, -1}, -1, 1, -1)
	wantBetter(t, pairing(3, "0 0 0 2"), []int{-1, 0, -1, -1}, -1, 0, -1, 2)
	wantBetter(t, pairing(3, "0 1 0 12"), []int{0, 1, -1, -1}, 0, 1, -1, 2)
	// By a longer row, as long as it is the first who can.
	wantBetter(t, pairing(4, "0 01 12 3"), []int{-1, 0, 1, -1}, 0, 1, 2, -1)
	// Whom the first asked in vain the next asks in vain, and another one not.
	wantBetter(t, pairing(4, "01 01 01 013"), []int{0, 1, -1, -1}, 0, 1, -1, 3)
	wantBetter(t, pairing(4, "01 01 01 013 2"), []int{0, 1, -1, 3, -1}, 0, 1, -1, 3, 2)
}

func TestAskedInOrder(t *testing.T) {
	wantBetter(t, pairing(4, "0123"), []int{-1}, 0)
	wantBetter(t, pairing(4, "13"), []int{-1}, 1)
	// Whoever has the one that is wanted first takes another one, though somebody is free.
	wantBetter(t, pairing(3, "02 01"), []int{0, -1}, 2, 0)
	wantBetter(t, pairing(3, "02 1"), []int{0, -1}, 0, 1)
	wantBetter(t, pairing(4, "01 13 02"), []int{0, 1, -1}, 1, 3, 0)
	wantBetter(t, pairing(4, "012 13 0"), []int{0, 1, -1}, 1, 3, 0)
	// Who has one wants it still, but asks it no more.
	wantBetter(t, pairing(3, "012 0"), []int{0, -1}, 1, 0)
	wantBetter(t, pairing(3, "012 1"), []int{1, -1}, 0, 1)
	wantBetter(t, pairing(3, "012 2"), []int{2, -1}, 0, 2)
}

// TestComeToTwice has right ones that are come to along two rows in one search; nobody asks them the second time.
func TestComeToTwice(t *testing.T) {
	// 2 is come to from 0 and from 1.
	wantNoBetter(t, "both rows lead to 2", pairing(3, "02 12 2 01"), 0, 1, 2, -1)
	wantBetter(t, pairing(4, "02 123 2 01"), []int{0, 1, 2, -1}, 0, 3, 2, 1)
	wantBetter(t, pairing(4, "02 12 2 013"), []int{0, 1, 2, -1}, 0, 1, 2, 3)
	wantBetter(t, pairing(4, "02 12 23 01"), []int{0, 1, 2, -1}, 2, 1, 3, 0)
	wantMatchAll(t, pairing(4, "02 12 2 01"), 0, 1, 2, -1)
	// The row comes back to where it began, and to itself.
	wantNoBetter(t, "round", pairing(2, "01 01 0"), 0, 1, -1)
	wantNoBetter(t, "round of three", pairing(3, "01 12 02 012"), 0, 1, 2, -1)
	wantBetter(t, pairing(4, "01 12 023 012"), []int{0, 1, 2, -1}, 1, 2, 3, 0)
	// Everybody comes to everybody.
	p := wantsAllRound(8)
	p.Right, p.Wants = 7, slices.Repeat([][]int{{0, 1, 2, 3, 4, 5, 6}}, 8)
	wantNoBetter(t, "seven for eight", p, 0, 1, 2, 3, 4, 5, 6, -1)
	wantMatchAll(t, p, 6, 5, 4, 3, 2, 1, 0, -1)
}

func TestMatchesKnown(t *testing.T) {
	p := someWants()
	wantMatch(t, p, true, 1, 0, -1)
	wantMatch(t, p, true, 1, -1, 0)
	wantMatch(t, p, true, 0, -1, -1)
	wantMatch(t, p, true, -1, -1, 0)
	wantMatch(t, p, true, -1, -1, -1)
	// Twice the same one, next to each other and apart.
	wantMatch(t, p, false, 0, 0, -1)
	wantMatch(t, p, false, 0, -1, 0)
	wantMatch(t, p, false, -1, 0, 0)
	wantMatch(t, p, false, 0, 0, 0)
	// One that is not wanted: by this left one, by none.
	wantMatch(t, p, false, 0, 1, -1)
	wantMatch(t, p, false, 2, 0, -1)
	wantMatch(t, p, false, -1, -1, 1)
	wantMatch(t, pairing(1, "-"), false, 0)
	for _, bad := range []int{math.MinInt, -3, -2, 3, 4, 8, math.MaxInt} {
		wantMatch(t, p, false, bad, 0, -1)
		wantMatch(t, p, false, 1, bad, -1)
		wantMatch(t, p, false, 1, 0, bad)
		wantMatch(t, p, false, bad, bad, bad)
	}
}

func TestNoMatchIsImproved(t *testing.T) {
	p := pairing(4, "013 01 02")
	wantBetter(t, p, []int{0, 1, -1}, 3, 1, 0)
	for what, match := range map[string][]int{
		"twice": {0, 0, -1}, "twice, apart": {0, -1, 0}, "not wanted": {2, 1, -1}, "not wanted at last": {-1, -1, 3},
		"nobody": {-1, -1, 4}, "nobody at first": {4, -1, -1}, "below -1": {-2, -1, -1}, "below -1 at last": {0, 1, -2},
		"far": {math.MaxInt, 1, -1}, "far below": {-1, math.MinInt, 2},
	} {
		wantMatch(t, p, false, match...)
		wantNoBetter(t, what, p, match...)
	}
	// All have one: there is nobody to whom one more is given.
	wantNoBetter(t, "all have one", p, 3, 1, 2)
	wantNoBetter(t, "all have one", p, 1, 0, 2)
	wantNoBetter(t, "nobody wants", pairing(4, "- - -"), -1, -1, -1)
}

func TestAsManyNumbersAsLefts(t *testing.T) {
	for left := 1; left <= 8; left++ {
		p := wantsAllRound(8)
		p.Left, p.Wants = left, p.Wants[:left]
		for many := range 20 {
			match := slices.Repeat([]int{-1}, many)
			if many == left {
				wantMatch(t, p, true, match...)
			} else {
				wantNotPaired(t, "not as many", p, match)
			}
		}
	}
	for _, match := range [][]int{nil, {}, {1}, {1, 0}, {1, 0, -1, -1}, {1, 0, -1, 2}, make([]int, 5000)} {
		wantNotPaired(t, "not as many", someWants(), match)
	}
}

func TestOneOnEachSide(t *testing.T) {
	wantMatchAll(t, pairing(1, "0"), 0)
	wantMatchAll(t, pairing(1, "-"), -1)
	wantMatch(t, pairing(1, "0"), true, 0)
	wantMatch(t, pairing(1, "0"), true, -1)
	wantBetter(t, pairing(1, "0"), []int{-1}, 0)
	wantNoBetter(t, "has it", pairing(1, "0"), 0)
	wantNoBetter(t, "wants nobody", pairing(1, "-"), -1)
	askOfPairing(t, pairing(1, "0"))
	askOfPairing(t, pairing(1, "-"))
}

func TestMaxSidesOnEach(t *testing.T) {
	if impl.MaxSides != 8 {
		t.Fatal(impl.MaxSides)
	}
	for many := 1; many <= 8; many++ {
		want := make([]int, many)
		for i := range want {
			want[i] = many - 1 - i
		}
		wantMatchAll(t, wantsAllRound(many), want...)
	}
	wantMatchAll(t, pairing(8, "7 6 5 4 3 2 1 0"), 7, 6, 5, 4, 3, 2, 1, 0)
	wantMatchAll(t, pairing(8, "7 7 7 7 7 7 7 7"), 7, -1, -1, -1, -1, -1, -1, -1)
	wantMatchAll(t, pairing(8, "7"), 7)
	wantMatchAll(t, pairing(1, "- - - - - - - 0"), -1, -1, -1, -1, -1, -1, -1, 0)
	for _, p := range []impl.Pairing{wantsAllRound(8), wantsInARow(), pairing(8, "7"), pairing(1, "0 0 0 0 0 0 0 0")} {
		askOfPairing(t, p)
	}
}

func TestNobodyWants(t *testing.T) {
	for left := 1; left <= 8; left++ {
		for _, right := range []int{1, 5, 8} {
			p := impl.Pairing{Left: left, Right: right, Wants: make([][]int, left)}
			wantMatchAll(t, p, noPairs(p)...)
			p.Wants[left-1] = []int{}
			wantMatchAll(t, p, noPairs(p)...)
			askOfPairing(t, p)
		}
	}
	// A nil list of wants and an empty one are the same.
	for _, none := range [][]int{nil, {}} {
		p := impl.Pairing{Left: 3, Right: 2, Wants: [][]int{{1}, none, {0, 1}}}
		wantMatchAll(t, p, 1, -1, 0)
		wantBetter(t, p, []int{-1, -1, 1}, 1, -1, 0)
	}
}

// wrongSides has pairings of which one side is not as said.
func wrongSides() map[string]impl.Pairing {
	p := someWants()
	return map[string]impl.Pairing{
		"Left 0":         {Left: 0, Right: 3, Wants: p.Wants},
		"Left 0, nobody": {Left: 0, Right: 3},
		"Left -1":        {Left: -1, Right: 3, Wants: p.Wants},
		"Left -3":        {Left: -3, Right: 3, Wants: p.Wants},
		"Left 9":         {Left: 9, Right: 3, Wants: p.Wants},
		"Left 9, all":    {Left: 9, Right: 3, Wants: make([][]int, 9)},
		"Left 5000":      {Left: 5000, Right: 3, Wants: make([][]int, 5000)},
		"Left far":       {Left: math.MaxInt, Right: 3, Wants: p.Wants},
		"Left far below": {Left: math.MinInt, Right: 3, Wants: p.Wants},
		"Right 0":        {Left: 3, Right: 0, Wants: p.Wants},
		"Right 0, none":  {Left: 3, Right: 0, Wants: make([][]int, 3)},
		"Right -1":       {Left: 3, Right: -1, Wants: make([][]int, 3)},
		"Right 9":        {Left: 3, Right: 9, Wants: p.Wants},
		"Right far":      {Left: 3, Right: math.MaxInt, Wants: p.Wants},
		"Right below":    {Left: 3, Right: math.MinInt, Wants: p.Wants},
		"nothing":        {},
		"one fewer":      {Left: 3, Right: 3, Wants: p.Wants[:2]},
		"one more":       {Left: 3, Right: 3, Wants: append(p.Wants, []int{2})},
		"one more, nil":  {Left: 3, Right: 3, Wants: append(p.Wants, nil)},
		"no wants":       {Left: 3, Right: 3},
		"wants of none":  {Left: 3, Right: 3, Wants: [][]int{}},
		"one, no wants":  {Left: 1, Right: 1},
		"many wants":     {Left: 3, Right: 3, Wants: make([][]int, 5000)},
	}
}

// wrongWants has lists of which nobody with three rights can have one.
func wrongWants() map[string][]int {
	return map[string][]int{
		"falling": {1, 0}, "falling at last": {0, 2, 1}, "twice": {1, 1}, "twice at last": {0, 1, 1}, "twice, apart": {0, 1, 0},
		"below 0": {-1}, "below 0 at first": {-1, 0, 1}, "of Right": {3}, "of Right at last": {0, 1, 2, 3}, "behind Right": {0, 7},
		"far": {0, math.MaxInt}, "far below": {math.MinInt, 0}, "all twice": {0, 1, 2, 0, 1, 2}, "many": make([]int, 5000),
	}
}

func TestPairingsWrong(t *testing.T) {
	for what, p := range wrongSides() {
		wantBadPairing(t, what, p)
	}
	for what, wants := range wrongWants() {
		wantBadPairing(t, what+", alone", impl.Pairing{Left: 1, Right: 3, Wants: [][]int{wants}})
		for left := range 3 {
			p := someWants()
			p.Wants[left] = wants
			wantBadPairing(t, what, p)
		}
	}
	// What is wrong with one Right is right with the next.
	p := pairing(7, "01 7 -")
	wantBadPairing(t, "of Right", p)
	p.Right = 8
	wantMatchAll(t, p, 0, 7, -1)
}

// TestEveryPairing holds MatchAll against a count by trying all matches.
func TestEveryPairing(t *testing.T) {
	for left := 1; left <= 4; left++ {
		for right := 1; right <= 3; right++ {
			eachPairing(left, right, func(p impl.Pairing) {
				match := checkMatchAll(t, p)
				if most := plainMostPairs(p, 0, 0); pairsIn(match) != most {
					t.Fatalf("MatchAll(%v) = %v, there are %d pairs", p, match, most)
				}
			})
		}
	}
}

// TestEveryRowOfNumbers asks for all rows, matches or not: a match is improved wherever it has not as many pairs as there can be (Berge).
func TestEveryRowOfNumbers(t *testing.T) {
	improved := 0
	eachPairing(3, 3, func(p impl.Pairing) {
		most := plainMostPairs(p, 0, 0)
		for code := range 5 * 5 * 5 {
			match := []int{code%5 - 2, code/5%5 - 2, code/25 - 2}
			better, ok := checkMatch(t, p, match)
			if is, _ := impl.IsMatch(p, match); ok != (is && pairsIn(match) < most) {
				t.Fatalf("ImproveMatch(%v, %v) = %v, %v, there are %d pairs", p, match, better, ok, most)
			}
			if ok {
				improved++
			}
		}
	})
	if improved < 3000 {
		t.Errorf("%d improved", improved)
	}
}

// anyMatch gives lefts, in any order, any right one that is still free, and some none.
func anyMatch(r *rand.Rand, p impl.Pairing) []int {
	match := noPairs(p)
	for _, left := range r.Perm(p.Left) {
		for _, k := range r.Perm(len(p.Wants[left])) {
			if right := p.Wants[left][k]; r.Intn(4) > 0 && !slices.Contains(match, right) {
				match[left] = right
			}
		}
	}
	return match
}

func TestPairingsMixed(t *testing.T) {
	r := rand.New(rand.NewSource(1001))
	improved, ended := 0, 0
	for range 4000 {
		p := anyPairing(r, 1+r.Intn(8), 1+r.Intn(8), 1+r.Intn(5))
		match := checkMatchAll(t, p)
		if most := plainMostPairs(p, 0, 0); pairsIn(match) != most {
			t.Fatalf("MatchAll(%v) = %v, there are %d pairs", p, match, most)
		}
		checkReachedSides(t, p)
		for range 5 {
			if _, ok := checkMatch(t, p, anyMatch(r, p)); ok {
				improved++
			} else {
				ended++
			}
		}
	}
	if improved < 5000 || ended < 2000 {
		t.Errorf("%d improved, %d not", improved, ended)
	}
}

func TestPairingsMixedWrong(t *testing.T) {
	r := rand.New(rand.NewSource(1002))
	good := 0
	for range 3000 {
		p := anyPairing(r, 1+r.Intn(8), 1+r.Intn(8), 4)
		switch r.Intn(6) {
		case 0:
			p.Left += r.Intn(3) - 1
		case 1:
			p.Right += r.Intn(3) - 1
		case 2:
			p.Wants = append(p.Wants, []int{})
		case 3:
			left := r.Intn(p.Left)
			p.Wants[left] = append(p.Wants[left], r.Intn(p.Right+2)-1)
		}
		match := make([]int, r.Intn(10))
		for i := range match {
			match[i] = r.Intn(p.Right+3) - 2
		}
		checkMatchAll(t, p)
		checkReachedSides(t, p)
		checkMatch(t, p, match)
		checkCover(t, p, match, nil)
		checkCover(t, p, nil, match)
		if impl.GoodPairing(p) {
			good++
		}
	}
	if good < 1000 || good > 2500 {
		t.Errorf("%d of 3000 are good", good)
	}
}

func TestPairingBehindItsLength(t *testing.T) {
	whole := [][]int{{0, 1, 9, -4, 0}, {0, 1, 2, 3}, {0, 0, 0}, {5, 5}, nil}
	was := copyPairing(impl.Pairing{Wants: whole})
	wants := [][]int{whole[0][:2], whole[1][:1], whole[2][:1], whole[3], whole[4]}
	match, none := []int{1, -1, 0, 0, 7, -9}, []int{-1, -1, -1, 0, 1, 5}
	p := impl.Pairing{Left: 3, Right: 3, Wants: wants[:3]}
	wantMatchAll(t, p, 1, 0, -1)
	wantCoverOf(t, p, []int{0}, []int{0})
	wantShort(t, p, 1, 2)
	wantMatch(t, p, true, match[:3]...)
	wantBetter(t, p, none[:3], 0, -1, -1)
	if !sameWays(whole, was.Wants) || !slices.Equal(match, []int{1, -1, 0, 0, 7, -9}) || !slices.Equal(none, []int{-1, -1, -1, 0, 1, 5}) {
		t.Errorf("%v, %v, %v", whole, match, none)
	}
}

func TestPairingNewMemory(t *testing.T) {
	p, match := pairing(4, "02 12 23 01"), append(make([]int, 0, 40), 0, 1, 2, -1)
	spoil := func(answer []int) {
		answer = answer[:cap(answer)]
		for i := range answer {
			answer[i] = -7
		}
	}
	for range 2 { // what was spoilt in the first round isn't there in the second
		all, _ := impl.MatchAll(p)
		better, _ := impl.ImproveMatch(p, match)
		if !slices.Equal(all, []int{2, 1, 3, 0}) || !slices.Equal(better, []int{2, 1, 3, 0}) {
			t.Errorf("%v, %v", all, better)
		}
		spoil(all)
		spoil(better)
		short := pairing(4, "02 12 2 01")
		left, right, _ := impl.CoverOf(short)
		lefts, _ := impl.ShortOf(short)
		if len(left) != 0 || !slices.Equal(right, []int{0, 1, 2}) || !slices.Equal(lefts, []int{0, 1, 2, 3}) {
			t.Errorf("%v, %v, %v", left, right, lefts)
		}
		spoil(left)
		spoil(right)
		spoil(lefts)
		left, right, _ = impl.CoverOf(someWants())
		_ = append(left, 8)
		if !slices.Equal(right, []int{0}) {
			t.Errorf("%v", right)
		}
		spoil(left)
		if !slices.Equal(right, []int{0}) {
			t.Errorf("%v", right)
		}
	}
	if !samePairing(p, pairing(4, "02 12 23 01")) || !slices.Equal(match[:40], append([]int{0, 1, 2, -1}, make([]int, 36)...)) {
		t.Errorf("%v, %v", p, match[:40])
	}
}
