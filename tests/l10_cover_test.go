package tests

import (
	"math"
	"math/bits"
	"math/rand"
	"slices"
	"testing"

	"loop.example/g00315/impl"
)

// plainSides goes from lefts without one as long as it can, by wants, and back by pairs: who is reached on each side, told by bits.
func plainSides(p impl.Pairing, match []int) (int, int) {
	left, right := 0, 0
	for i, has := range match {
		if has == -1 {
			left |= 1 << i
		}
	}
	for range p.Left {
		for i, wants := range p.Wants {
			for _, want := range wants {
				if left>>i&1 == 1 {
					right |= 1 << want
				}
			}
		}
		for i, has := range match {
			if has != -1 && right>>has&1 == 1 {
				left |= 1 << i
			}
		}
	}
	return left, right
}

// plainCovers holds each want against both lists.
func plainCovers(p impl.Pairing, left []int, right []int) bool {
	for i, wants := range p.Wants {
		for _, want := range wants {
			if !slices.Contains(left, i) && !slices.Contains(right, want) {
				return false
			}
		}
	}
	return true
}

// plainFewestCover tries all lefts and rights: how few cover each want.
func plainFewestCover(p impl.Pairing) int {
	fewest := p.Left + p.Right
	for left := range 1 << p.Left {
		for right := range 1 << p.Right {
			if many := bits.OnesCount(uint(left)) + bits.OnesCount(uint(right)); many < fewest && plainCovers(p, chosen(left), chosen(right)) {
				fewest = many
			}
		}
	}
	return fewest
}

// plainWanted is how many rights these lefts want together.
func plainWanted(p impl.Pairing, lefts []int) int {
	wanted := 0
	for _, i := range lefts {
		for _, want := range p.Wants[i] {
			wanted |= 1 << want
		}
	}
	return bits.OnesCount(uint(wanted))
}

// plainMostShort tries all lefts: how many fewer rights than they are some want together, at most.
func plainMostShort(p impl.Pairing) int {
	most := 0
	for lefts := range 1 << p.Left {
		most = max(most, bits.OnesCount(uint(lefts))-plainWanted(p, chosen(lefts)))
	}
	return most
}

// checkReachedSides asks CoverOf and ShortOf, as said or not.
func checkReachedSides(t *testing.T, p impl.Pairing) ([]int, []int, []int) {
	t.Helper()
	was := copyPairing(p)
	can := plainGoodPairing(p)
	var wantLeft, wantRight, wantShort []int
	if can {
		left, right := plainSides(p, plainMatchAll(p))
		wantLeft, wantRight, wantShort = chosen((1<<p.Left-1)&^left), chosen(right), chosen(left)
	}
	left, right, ok := impl.CoverOf(p)
	if !slices.Equal(left, wantLeft) || !slices.Equal(right, wantRight) || ok != can {
		t.Fatalf("CoverOf(%v) = %v, %v, %v, not %v, %v, %v", p, left, right, ok, wantLeft, wantRight, can)
	}
	short, ok := impl.ShortOf(p)
	if !slices.Equal(short, wantShort) || ok != (len(wantShort) > 0) {
		t.Fatalf("ShortOf(%v) = %v, %v, not %v", p, short, ok, wantShort)
	}
	if can {
		checkInAll(t, p, left, right, short)
	}
	if !samePairing(p, was) {
		t.Fatalf("written into: %v, once %v", p, was)
	}
	return left, right, short
}

// checkInAll asks the program alone: as many pairs as it takes to be in all, and who is short wants fewer than they are, just by as many as have none.
func checkInAll(t *testing.T, p impl.Pairing, left []int, right []int, short []int) {
	t.Helper()
	match, ok := impl.MatchAll(p)
	if !ok || len(left)+len(right) != pairsIn(match) {
		t.Fatalf("%v: pairs %v, cover %v, %v", p, match, left, right)
	}
	if is, ok := impl.IsCover(p, left, right); !is || !ok {
		t.Fatalf("IsCover(%v, %v, %v) = %v, %v", p, left, right, is, ok)
	}
	for _, i := range left {
		if is, ok := impl.IsCover(p, without(left, i), right); is || !ok {
			t.Fatalf("%v: cover %v, %v: the left one %d is not needed", p, left, right, i)
		}
	}
	for _, k := range right {
		if is, ok := impl.IsCover(p, left, without(right, k)); is || !ok {
			t.Fatalf("%v: cover %v, %v: the right one %d is not needed", p, left, right, k)
		}
	}
	if none := p.Left - pairsIn(match); len(short)-plainWanted(p, short) != none || (len(short) > 0) != (none > 0) {
		t.Fatalf("%v: short are %v, %d have none", p, short, none)
	}
}

// checkCover asks IsCover, as said or not.
func checkCover(t *testing.T, p impl.Pairing, left []int, right []int) bool {
	t.Helper()
	was, lefts, rights := copyPairing(p), slices.Clone(left), slices.Clone(right)
	can := plainGoodPairing(p) && plainRising(left, p.Left) && plainRising(right, p.Right)
	want := can && plainCovers(p, left, right)
	is, ok := impl.IsCover(p, left, right)
	if is != want || ok != can {
		t.Fatalf("IsCover(%v, %v, %v) = %v, %v, not %v, %v", p, left, right, is, ok, want, can)
	}
	if !samePairing(p, was) || !slices.Equal(left, lefts) || !slices.Equal(right, rights) {
		t.Fatalf("written into: %v, %v, %v, once %v, %v, %v", p, left, right, was, lefts, rights)
	}
	return is
}

func wantCoverOf(t *testing.T, p impl.Pairing, wantLeft []int, wantRight []int) {
	t.Helper()
	if left, right, _ := checkReachedSides(t, p); !slices.Equal(left, wantLeft) || !slices.Equal(right, wantRight) {
		t.Errorf("CoverOf(%v) = %v, %v, not %v, %v", p, left, right, wantLeft, wantRight)
	}
	if _, _, ok := impl.CoverOf(p); !ok {
		t.Errorf("CoverOf(%v) tells false", p)
	}
}

func wantShort(t *testing.T, p impl.Pairing, want ...int) {
	t.Helper()
	if _, _, short := checkReachedSides(t, p); !slices.Equal(short, want) {
		t.Errorf("ShortOf(%v) = %v, not %v", p, short, want)
	}
	if _, ok := impl.ShortOf(p); !ok {
		t.Errorf("ShortOf(%v) tells false", p)
	}
}

func wantNobodyShort(t *testing.T, p impl.Pairing) {
	t.Helper()
	checkReachedSides(t, p)
	if short, ok := impl.ShortOf(p); len(short) != 0 || ok {
		t.Errorf("ShortOf(%v) = %v, %v", p, short, ok)
	}
}

func wantCover(t *testing.T, p impl.Pairing, left []int, right []int, want bool) {
	t.Helper()
	checkCover(t, p, left, right)
	if is, ok := impl.IsCover(p, left, right); is != want || !ok {
		t.Errorf("IsCover(%v, %v, %v) = %v, %v, not %v", p, left, right, is, ok, want)
	}
}

func wantNoCover(t *testing.T, what string, p impl.Pairing, left []int, right []int) {
	t.Helper()
	checkCover(t, p, left, right)
	if is, ok := impl.IsCover(p, left, right); is || ok {
		t.Errorf("%s: IsCover(%v, %v, %v) = %v, %v", what, p, left, right, is, ok)
	}
}

func TestCoversOfAll(t *testing.T) {
	// Where all lefts have somebody nobody is reached.
	wantCoverOf(t, pairing(2, "0 1"), []int{0, 1}, nil)
	wantCoverOf(t, pairing(3, "012 012 012"), []int{0, 1, 2}, nil)
	wantCoverOf(t, pairing(8, "7"), []int{0}, nil)
	wantCoverOf(t, wantsInARow(), []int{0, 1, 2, 3, 4, 5, 6, 7}, nil)
	// Where some have none: who wants the same is reached, and not who wants others, too.
	wantCoverOf(t, someWants(), []int{0}, []int{0})
	wantCoverOf(t, pairing(3, "0 0 01"), []int{2}, []int{0})
	wantCoverOf(t, pairing(1, "0 0 0"), nil, []int{0})
	wantCoverOf(t, pairing(3, "- 0 -"), []int{1}, nil)
	wantCoverOf(t, pairing(4, "01 01 01 0123"), []int{3}, []int{0, 1})
	wantCoverOf(t, pairing(4, "12 2 1 12 03"), []int{4}, []int{1, 2})
	// Reached over several pairs.
	wantCoverOf(t, pairing(8, "01 12 23 34 45 56 6 0"), nil, []int{0, 1, 2, 3, 4, 5, 6})
	wantCoverOf(t, pairing(8, "01 12 2 34 45 56 67 0"), []int{3, 4, 5, 6}, []int{0, 1, 2})
	wantCoverOf(t, pairing(3, "02 12 2 01"), nil, []int{0, 1, 2})
	// Back by pairs alone: who only wants one that is reached is not reached by it.
	wantCoverOf(t, pairing(3, "0 0 012"), []int{2}, []int{0})
	wantCoverOf(t, pairing(4, "0 0 02 23"), []int{2, 3}, []int{0})
}

func TestShortOfOthers(t *testing.T) {
	wantShort(t, someWants(), 1, 2)
	wantShort(t, pairing(3, "0 0 01"), 0, 1)
	wantShort(t, pairing(1, "0 0 0"), 0, 1, 2)
	wantShort(t, pairing(3, "- 0 -"), 0, 2)
	wantShort(t, pairing(4, "01 01 01 0123"), 0, 1, 2)
	wantShort(t, pairing(4, "12 2 1 12 03"), 0, 1, 2, 3)
	wantShort(t, pairing(8, "01 12 23 34 45 56 6 0"), 0, 1, 2, 3, 4, 5, 6, 7)
	wantShort(t, pairing(8, "01 12 2 34 45 56 67 0"), 0, 1, 2, 7)
	// Two who are short for reasons of their own.
	wantShort(t, pairing(5, "0 0 12 3 3 124"), 0, 1, 3, 4)
	for _, p := range []impl.Pairing{pairing(2, "0 1"), pairing(3, "012 012 012"), wantsInARow(), pairing(8, "7"), pairing(3, "2 01 0"), wantsAllRound(8)} {
		wantNobodyShort(t, p)
	}
}

func TestCoversAtTheEdges(t *testing.T) {
	// One on each side.
	wantCoverOf(t, pairing(1, "0"), []int{0}, nil)
	wantNobodyShort(t, pairing(1, "0"))
	wantCoverOf(t, pairing(1, "-"), nil, nil)
	wantShort(t, pairing(1, "-"), 0)
	// All want all: the side that is fewer is in all.
	eight := []int{0, 1, 2, 3, 4, 5, 6, 7}
	for many := 1; many <= 8; many++ {
		p := wantsAllRound(8)
		p.Left, p.Wants = many, p.Wants[:many]
		wantCoverOf(t, p, eight[:many], nil)
		wantNobodyShort(t, p)
		p = impl.Pairing{Left: 8, Right: many, Wants: slices.Repeat([][]int{eight[:many]}, 8)}
		if many < 8 {
			wantCoverOf(t, p, nil, eight[:many])
			wantShort(t, p, eight...)
		}
	}
	// Nobody wants anything: nothing is to be covered, and all are short.
	for _, none := range [][]int{nil, {}} {
		for many := 1; many <= 8; many++ {
			p := impl.Pairing{Left: many, Right: 9 - many, Wants: slices.Repeat([][]int{none}, many)}
			wantCoverOf(t, p, nil, nil)
			wantShort(t, p, eight[:many]...)
			wantCover(t, p, nil, []int{}, true)
		}
	}
}

func TestCoversKnown(t *testing.T) {
	p := someWants()
	wantCover(t, p, []int{0}, []int{0}, true)
	wantCover(t, p, nil, []int{0}, false)
	wantCover(t, p, []int{0}, nil, false)
	wantCover(t, p, []int{0, 1}, nil, false)
	wantCover(t, p, []int{1, 2}, nil, false)
	wantCover(t, p, []int{1, 2}, []int{1}, false)
	wantCover(t, p, []int{1, 2}, []int{0, 1}, true)
	wantCover(t, p, nil, []int{0, 1}, true)
	wantCover(t, p, nil, []int{1, 2}, false)
	wantCover(t, p, []int{1}, []int{0}, false)
	wantCover(t, p, []int{0, 2}, []int{0}, true)
	// Nobody, all lefts, all rights, all.
	wantCover(t, p, nil, nil, false)
	wantCover(t, p, []int{}, []int{}, false)
	wantCover(t, p, []int{0, 1, 2}, nil, true)
	wantCover(t, p, []int{}, []int{0, 1, 2}, true)
	wantCover(t, p, []int{0, 1, 2}, []int{0, 1, 2}, true)
	wantCover(t, wantsAllRound(8), []int{0, 1, 2, 3, 4, 5, 6, 7}, nil, true)
	wantCover(t, wantsAllRound(8), nil, []int{0, 1, 2, 3, 4, 5, 6, 7}, true)
	wantCover(t, wantsAllRound(8), []int{0, 1, 2, 3, 4, 5, 6}, []int{0, 1, 2, 3, 4, 5, 6}, false)
	// The sides are not of the same length.
	wantCover(t, pairing(5, "4 3"), nil, []int{3, 4}, true)
	wantCover(t, pairing(5, "4 3"), []int{1}, []int{4}, true)
	wantCover(t, pairing(5, "4 3"), []int{0}, []int{4}, false)
	wantCover(t, pairing(1, "- - - - 0"), []int{4}, nil, true)
	wantCover(t, pairing(1, "- - - - 0"), []int{0, 1, 2, 3}, nil, false)
}

func TestCoversWrong(t *testing.T) {
	for what, some := range wrongWants() {
		wantNoCover(t, what, someWants(), some, nil)
		wantNoCover(t, what, someWants(), nil, some)
		wantNoCover(t, what, someWants(), some, []int{0, 1, 2})
		wantNoCover(t, what, someWants(), []int{0, 1, 2}, some)
		wantNoCover(t, what, someWants(), some, some)
		wantNoCover(t, what, pairing(3, "- - -"), some, nil)
	}
	// Each side has its own bound.
	p := pairing(5, "4 3")
	wantCover(t, p, []int{0, 1}, []int{4}, true)
	for _, bad := range []int{math.MinInt, -1, 2, 4, 5, math.MaxInt} {
		wantNoCover(t, "no left one", p, []int{bad}, []int{3, 4})
	}
	for _, bad := range []int{math.MinInt, -1, 5, 8, math.MaxInt} {
		wantNoCover(t, "no right one", p, []int{0, 1}, []int{bad})
	}
	wantNoCover(t, "no left one", pairing(1, "0"), []int{1}, nil)
	wantNoCover(t, "no right one", pairing(1, "0 0"), nil, []int{1})
}

// TestEveryCover holds both against all lefts and rights, and all sets of lefts.
func TestEveryCover(t *testing.T) {
	for left := 1; left <= 3; left++ {
		for right := 1; right <= 3; right++ {
			eachPairing(left, right, func(p impl.Pairing) {
				lefts, rights, _ := checkReachedSides(t, p)
				if fewest := plainFewestCover(p); len(lefts)+len(rights) != fewest {
					t.Fatalf("CoverOf(%v) = %v, %v: %d are enough", p, lefts, rights, fewest)
				}
				checkMostShort(t, p)
				for code := range 1 << (left + right) {
					checkCover(t, p, chosen(code&(1<<left-1)), chosen(code>>left))
				}
			})
		}
	}
	for _, sides := range [][2]int{{4, 3}, {3, 4}} {
		eachPairing(sides[0], sides[1], func(p impl.Pairing) { checkMostShort(t, p) })
	}
}

// checkMostShort asks that nobody has none where all want as many as they are, and that no lefts are shorter of others than ShortOf tells.
func checkMostShort(t *testing.T, p impl.Pairing) {
	t.Helper()
	_, _, short := checkReachedSides(t, p)
	if most := plainMostShort(p); len(short)-plainWanted(p, short) != most {
		t.Fatalf("ShortOf(%v) = %v, some want %d fewer than they are", p, short, most)
	}
}

func TestCoversMixed(t *testing.T) {
	r := rand.New(rand.NewSource(1003))
	covered, short := 0, 0
	for range 2000 {
		p := anyPairing(r, 1+r.Intn(8), 1+r.Intn(8), 1+r.Intn(4))
		checkMostShort(t, p)
		if _, ok := impl.ShortOf(p); ok {
			short++
		}
		for range 10 {
			if checkCover(t, p, chosen(r.Intn(1<<p.Left)|r.Intn(1<<p.Left)), chosen(r.Intn(1<<p.Right)|r.Intn(1<<p.Right))) {
				covered++
			}
		}
	}
	if covered < 1000 || covered > 19000 || short < 300 || short > 1900 {
		t.Errorf("%d covers, %d short", covered, short)
	}
	for range 60 {
		p := anyPairing(r, 5+r.Intn(2), 5+r.Intn(2), 3)
		lefts, rights, _ := checkReachedSides(t, p)
		if fewest := plainFewestCover(p); len(lefts)+len(rights) != fewest {
			t.Fatalf("CoverOf(%v) = %v, %v: %d are enough", p, lefts, rights, fewest)
		}
	}
}

func TestCoverBehindItsLength(t *testing.T) {
	left, right := []int{0, 5, -1, 0}, []int{0, 1, 1, 9}
	wantCover(t, someWants(), left[:1], right[:1], true)
	wantCover(t, someWants(), left[:0], right[:1], false)
	wantCover(t, someWants(), left[:0], right[:2], true)
	wantCover(t, someWants(), right[:0], left[:0], false)
	if !slices.Equal(left, []int{0, 5, -1, 0}) || !slices.Equal(right, []int{0, 1, 1, 9}) {
		t.Errorf("%v, %v", left, right)
	}
}
