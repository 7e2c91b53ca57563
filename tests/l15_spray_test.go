package tests

import (
	"math"
	"math/rand"
	"slices"
	"testing"

	"loop.example/g00315/impl"
)

func sprayOf(to int, tokens ...int) impl.Spray {
	return impl.Spray{Tokens: tokens, To: to}
}

func meeting(a int, b int) impl.Meet {
	return impl.Meet{A: a, B: b}
}

func copySpray(s impl.Spray) impl.Spray {
	s.Tokens = append([]int{}, s.Tokens...)
	return s
}

func sameSpray(x impl.Spray, y impl.Spray) bool {
	return slices.Equal(x.Tokens, y.Tokens) && x.To == y.To && x.There == y.There
}

// plainGoodSpray asks for one rule after another; no sum is built of what is no number of Tokens.
func plainGoodSpray(s impl.Spray) bool {
	if len(s.Tokens) < 2 || len(s.Tokens) > 8 || s.To < 0 || s.To >= len(s.Tokens) {
		return false
	}
	all := 0
	for node, many := range s.Tokens {
		if many < 0 || many > 64 || node == s.To && many > 0 {
			return false
		}
		all += many
	}
	return all >= 1 && all <= 64
}

// plainGives tells how many one gives to another where neither is To, token by token.
func plainGives(has int, other int) int {
	gives := 0
	for other == 0 && has >= 2 {
		has, gives = has-2, gives+1
	}
	return gives
}

func plainMeet(s impl.Spray, m impl.Meet) (impl.Spray, bool) {
	if !plainGoodSpray(s) || m.A < 0 || m.A >= len(s.Tokens) || m.B < 0 || m.B >= len(s.Tokens) || m.A == m.B {
		return impl.Spray{}, false
	}
	s = copySpray(s)
	a, b := s.Tokens[m.A], s.Tokens[m.B]
	if m.A == s.To || m.B == s.To {
		s.There = s.There || a+b > 0 // To has none
		return s, true
	}
	s.Tokens[m.A] = a - plainGives(a, b) + plainGives(b, a)
	s.Tokens[m.B] = b - plainGives(b, a) + plainGives(a, b)
	return s, true
}

func plainNewSpray(nodes int, from int, to int, copies int) (impl.Spray, bool) {
	if nodes < 2 || nodes > 8 || from < 0 || from >= nodes || to < 0 || to >= nodes || from == to || copies < 1 || copies > 64 {
		return impl.Spray{}, false
	}
	s := impl.Spray{To: to}
	for node := range nodes {
		if node == from {
			s.Tokens = append(s.Tokens, copies)
		} else {
			s.Tokens = append(s.Tokens, 0)
		}
	}
	return s, true
}

// plainPlaySpray also tells after how many it was There.
func plainPlaySpray(nodes int, from int, to int, copies int, l []impl.Meet) (impl.Spray, int, bool) {
	s, ok := plainNewSpray(nodes, from, to, copies)
	if len(l) > 100 {
		ok = false
	}
	first := 0
	for i := 0; ok && i < len(l); i++ {
		was := s.There
		if s, ok = plainMeet(s, l[i]); s.There != was {
			first = i + 1
		}
	}
	if !ok {
		return impl.Spray{}, 0, false
	}
	return s, first, true
}

// checkSpray asks GoodSpray, CarriersIn and TokensIn, good or not.
func checkSpray(t *testing.T, s impl.Spray) {
	t.Helper()
	was := copySpray(s)
	good := plainGoodSpray(s)
	if impl.GoodSpray(s) != good {
		t.Fatalf("GoodSpray(%+v) is not %v", s, good)
	}
	var want []int
	all := 0
	for node, many := range s.Tokens {
		if good && many > 0 {
			want, all = append(want, node), all+many
		}
	}
	if nodes, ok := impl.CarriersIn(s); !slices.Equal(nodes, want) || ok != good {
		t.Fatalf("CarriersIn(%+v) = %v, %v, not %v, %v", s, nodes, ok, want, good)
	}
	if many, ok := impl.TokensIn(s); many != all || ok != good {
		t.Fatalf("TokensIn(%+v) = %d, %v, not %d, %v", s, many, ok, all, good)
	}
	if !sameSpray(s, was) {
		t.Fatalf("written into: %+v, once %+v", s, was)
	}
}

// checkMeet asks MeetBoth, as said or not; tokens are neither lost nor made, and who is There stays so.
func checkMeet(t *testing.T, s impl.Spray, m impl.Meet) (impl.Spray, bool) {
	t.Helper()
	was := copySpray(s)
	want, can := plainMeet(s, m)
	after, ok := impl.MeetBoth(s, m)
	if !sameSpray(after, want) || ok != can {
		t.Fatalf("MeetBoth(%+v, %v) = %+v, %v, not %+v, %v", s, m, after, ok, want, can)
	}
	if other, also := impl.MeetBoth(s, meeting(m.B, m.A)); !sameSpray(other, after) || also != ok {
		t.Fatalf("MeetBoth(%+v, %v) = %+v, %v, and the other way %+v, %v", s, m, after, ok, other, also)
	}
	if !sameSpray(s, was) {
		t.Fatalf("written into: %+v, once %+v", s, was)
	}
	if !ok {
		return after, false
	}
	checkSpray(t, after)
	ahead, _ := impl.TokensIn(s)
	if behind, ok := impl.TokensIn(after); behind != ahead || !ok {
		t.Fatalf("%+v has %d tokens, behind %v %d, %v", s, ahead, m, behind, ok)
	}
	if s.There && !after.There {
		t.Fatalf("%+v is There no more behind %v", s, m)
	}
	return after, true
}

// checkPlaySpray asks PlaySpray, as said or not, and holds it against NewSpray and MeetBoth, meeting by meeting.
func checkPlaySpray(t *testing.T, nodes int, from int, to int, copies int, l []impl.Meet) (impl.Spray, int, bool) {
	t.Helper()
	was := slices.Clone(l)
	want, first, can := plainPlaySpray(nodes, from, to, copies, l)
	s, many, ok := impl.PlaySpray(nodes, from, to, copies, l)
	if !sameSpray(s, want) || many != first || ok != can {
		t.Fatalf("PlaySpray(%d, %d, %d, %d, %v) = %+v, %d, %v, not %+v, %d, %v", nodes, from, to, copies, l, s, many, ok, want, first, can)
	}
	if !slices.Equal(l, was) {
		t.Fatalf("written into: %v, once %v", l, was)
	}
	if !ok {
		return s, many, false
	}
	one, _ := impl.NewSpray(nodes, from, to, copies)
	for i, m := range l {
		one, ok = checkMeet(t, one, m)
		carriers, _ := impl.CarriersIn(one)
		if all, _ := impl.TokensIn(one); !ok || all != copies || len(carriers) > copies {
			t.Fatalf("behind %v: %+v, %v, %d tokens, carried by %v", l[:i+1], one, ok, all, carriers)
		}
		if one.There != (many > 0 && i+1 >= many) {
			t.Fatalf("behind %v: %+v, where it was There after %d", l[:i+1], one, many)
		}
	}
	if !sameSpray(one, s) {
		t.Fatalf("PlaySpray(%d, %d, %d, %d, %v) = %+v, meeting by meeting %+v", nodes, from, to, copies, l, s, one)
	}
	return s, many, true
}

// wantMeet names all Tokens behind the meeting, and whether it is There.
func wantMeet(t *testing.T, s impl.Spray, m impl.Meet, there bool, tokens ...int) impl.Spray {
	t.Helper()
	checkMeet(t, s, m)
	want := impl.Spray{Tokens: tokens, To: s.To, There: there}
	after, ok := impl.MeetBoth(s, m)
	if !sameSpray(after, want) || !ok {
		t.Errorf("MeetBoth(%+v, %v) = %+v, %v, not %+v", s, m, after, ok, want)
	}
	return after
}

func wantNoMeet(t *testing.T, what string, s impl.Spray, m impl.Meet) {
	t.Helper()
	checkMeet(t, s, m)
	if after, ok := impl.MeetBoth(s, m); !sameSpray(after, impl.Spray{}) || ok {
		t.Errorf("%s: MeetBoth(%+v, %v) = %+v, %v", what, s, m, after, ok)
	}
}

// wantBadSpray asks every function of a spray that is not good, at meetings that would do and at others.
func wantBadSpray(t *testing.T, what string, s impl.Spray) {
	t.Helper()
	for _, there := range []bool{false, true} {
		s.There = there
		checkSpray(t, s)
		if plainGoodSpray(s) || impl.GoodSpray(s) {
			t.Errorf("%s: %+v is good", what, s)
		}
		if nodes, ok := impl.CarriersIn(s); len(nodes) != 0 || ok {
			t.Errorf("%s: CarriersIn(%+v) = %v, %v", what, s, nodes, ok)
		}
		if many, ok := impl.TokensIn(s); many != 0 || ok {
			t.Errorf("%s: TokensIn(%+v) = %d, %v", what, s, many, ok)
		}
		for a := -1; a <= min(len(s.Tokens), 9); a++ {
			for b := -1; b <= min(len(s.Tokens), 9); b++ {
				wantNoMeet(t, what, s, meeting(a, b))
			}
		}
	}
}

func wantPlaySpray(t *testing.T, nodes int, from int, to int, copies int, l []impl.Meet, first int, tokens ...int) {
	t.Helper()
	checkPlaySpray(t, nodes, from, to, copies, l)
	want := impl.Spray{Tokens: tokens, To: to, There: first > 0}
	if s, many, ok := impl.PlaySpray(nodes, from, to, copies, l); !sameSpray(s, want) || many != first || !ok {
		t.Errorf("PlaySpray(%d, %d, %d, %d, %v) = %+v, %d, %v, not %+v, %d", nodes, from, to, copies, l, s, many, ok, want, first)
	}
}

func wantNoPlaySpray(t *testing.T, what string, nodes int, from int, to int, copies int, l []impl.Meet) {
	t.Helper()
	checkPlaySpray(t, nodes, from, to, copies, l)
	if s, many, ok := impl.PlaySpray(nodes, from, to, copies, l); !sameSpray(s, impl.Spray{}) || many != 0 || ok {
		t.Errorf("%s: PlaySpray(%d, %d, %d, %d, %v) = %+v, %d, %v", what, nodes, from, to, copies, l, s, many, ok)
	}
}

// wrongNodes are numbers of no node, however many there are.
func wrongNodes() []int {
	return []int{-1, 8, -8, 9, 100, math.MinInt, math.MaxInt, 1 << 32, -1 << 32, 1 + 1<<32}
}

// someSpray has carriers of many, of few and of one, one who has none, and To in the middle.
func someSpray() impl.Spray {
	return sprayOf(2, 9, 1, 0, 0, 2, 3)
}

// anySpray is good, whatever comes.
func anySpray(r *rand.Rand) impl.Spray {
	nodes := 2 + r.Intn(7)
	s := impl.Spray{Tokens: make([]int, nodes), To: r.Intn(nodes), There: r.Intn(4) == 0}
	carriers := 1 + r.Intn(nodes)
	for range 1 + r.Intn(64) {
		if node := (s.To + 1 + r.Intn(carriers)) % nodes; node != s.To {
			s.Tokens[node]++
		}
	}
	if plainGoodSpray(s) {
		return s
	}
	return anySpray(r)
}

func anyMeets(r *rand.Rand, nodes int, many int) []impl.Meet {
	l := make([]impl.Meet, many)
	for i := range l {
		a := r.Intn(nodes)
		l[i] = meeting(a, (a+1+r.Intn(nodes-1))%nodes)
	}
	return l
}

func TestSprayConstants(t *testing.T) {
	if impl.MaxCopies != 64 || impl.MaxMeets != 100 {
		t.Error(impl.MaxCopies, impl.MaxMeets)
	}
}

func TestNewSpray(t *testing.T) {
	made := 0
	for nodes := -1; nodes <= 10; nodes++ {
		for from := -2; from <= 10; from++ {
			for to := -2; to <= 10; to++ {
				for _, copies := range []int{-1, 0, 1, 2, 3, 63, 64, 65, 128} {
					want, can := plainNewSpray(nodes, from, to, copies)
					s, ok := impl.NewSpray(nodes, from, to, copies)
					if !sameSpray(s, want) || ok != can || impl.GoodSpray(s) != can {
						t.Fatalf("NewSpray(%d, %d, %d, %d) = %+v, %v, not %+v, %v", nodes, from, to, copies, s, ok, want, can)
					}
					checkSpray(t, s)
					if ok {
						made++
					}
				}
			}
		}
	}
	if made != 5*(2+6+12+20+30+42+56) {
		t.Error(made)
	}
	s, ok := impl.NewSpray(4, 1, 3, 10)
	if !sameSpray(s, sprayOf(3, 0, 10, 0, 0)) || !ok {
		t.Error(s, ok)
	}
	for _, wrong := range wrongNodes() {
		for _, args := range [][4]int{{wrong, 0, 1, 5}, {8, wrong, 1, 5}, {8, 0, wrong, 5}, {8, wrong, wrong, 5}, {wrong, wrong, wrong, wrong}} {
			want, can := plainNewSpray(args[0], args[1], args[2], args[3])
			if s, ok := impl.NewSpray(args[0], args[1], args[2], args[3]); !sameSpray(s, want) || ok != can {
				t.Errorf("NewSpray(%v) = %+v, %v, not %+v, %v", args, s, ok, want, can)
			}
		}
	}
	for _, copies := range []int{0, -1, 65, -64, math.MinInt, math.MaxInt, 1 << 32, 1 + 1<<32} {
		if s, ok := impl.NewSpray(8, 0, 1, copies); !sameSpray(s, impl.Spray{}) || ok {
			t.Errorf("%d copies: %+v, %v", copies, s, ok)
		}
	}
}

func TestMeetKnown(t *testing.T) {
	s := someSpray()
	// Who has Tokens gives half of them, down, to who has none.
	wantMeet(t, s, meeting(0, 3), false, 5, 1, 0, 4, 2, 3)
	wantMeet(t, s, meeting(3, 0), false, 5, 1, 0, 4, 2, 3)
	wantMeet(t, s, meeting(4, 3), false, 9, 1, 0, 1, 1, 3)
	wantMeet(t, s, meeting(5, 3), false, 9, 1, 0, 1, 2, 2)
	// One of which none is given.
	wantMeet(t, s, meeting(1, 3), false, s.Tokens...)
	wantMeet(t, s, meeting(3, 1), false, s.Tokens...)
	// Both have some.
	wantMeet(t, s, meeting(0, 1), false, s.Tokens...)
	wantMeet(t, s, meeting(1, 0), false, s.Tokens...)
	wantMeet(t, s, meeting(0, 5), false, s.Tokens...)
	wantMeet(t, s, meeting(5, 4), false, s.Tokens...)
	// To: who has any brings it there, and keeps what it has; who has none does not.
	for node := range 6 {
		if node != s.To {
			wantMeet(t, s, meeting(node, s.To), node != 3, s.Tokens...)
			wantMeet(t, s, meeting(s.To, node), node != 3, s.Tokens...)
		}
	}
	// Two who have none.
	wantMeet(t, sprayOf(0, 0, 5, 0, 0), meeting(2, 3), false, 0, 5, 0, 0)
	wantMeet(t, sprayOf(0, 0, 5, 0, 0), meeting(2, 0), false, 0, 5, 0, 0)
}

func TestMeetEachNumberOfTokens(t *testing.T) {
	for many := 1; many <= 64; many++ {
		s := sprayOf(1, many, 0, 0)
		wantMeet(t, s, meeting(0, 2), false, many-many/2, 0, many/2)
		wantMeet(t, s, meeting(0, 1), true, many, 0, 0)
		wantMeet(t, s, meeting(2, 1), false, many, 0, 0)
		for other := 1; many+other <= 64; other++ {
			both := sprayOf(1, many, 0, other)
			wantMeet(t, both, meeting(0, 2), false, many, 0, other)
			wantMeet(t, both, meeting(1, 0), true, many, 0, other)
		}
	}
}

// TestMeetOnceThere stays there, whoever meets, and goes on giving.
func TestMeetOnceThere(t *testing.T) {
	s := someSpray()
	s.There = true
	wantMeet(t, s, meeting(3, 2), true, s.Tokens...)
	wantMeet(t, s, meeting(2, 3), true, s.Tokens...)
	wantMeet(t, s, meeting(0, 2), true, s.Tokens...)
	wantMeet(t, s, meeting(1, 3), true, s.Tokens...)
	wantMeet(t, s, meeting(0, 3), true, 5, 1, 0, 4, 2, 3)
}

// TestMeetEverySmallSpray asks all meetings of all sprays of few nodes with few Tokens.
func TestMeetEverySmallSpray(t *testing.T) {
	gave, came, stayed := 0, 0, 0
	for nodes := 1; nodes <= 4; nodes++ {
		tokens := make([]int, nodes)
		for n := range int(math.Pow(6, float64(nodes))) {
			for node := range tokens {
				tokens[node] = n%6 - 1
				n /= 6
			}
			for to := -1; to <= nodes; to++ {
				s := sprayOf(to, tokens...)
				checkSpray(t, s)
				for a := -1; a <= nodes; a++ {
					for b := a; b <= nodes; b++ {
						after, ok := checkMeet(t, s, meeting(a, b))
						switch {
						case ok && after.There:
							came++
						case ok && !slices.Equal(after.Tokens, s.Tokens):
							gave++
						case ok:
							stayed++
						}
					}
				}
			}
		}
	}
	if gave < 300 || came < 500 || stayed < 500 {
		t.Error(gave, came, stayed)
	}
}

func TestMeetWrong(t *testing.T) {
	s := someSpray()
	for node := range 6 {
		wantNoMeet(t, "with itself", s, meeting(node, node))
		for _, wrong := range append(wrongNodes(), 6, 7) {
			wantNoMeet(t, "with no node", s, meeting(node, wrong))
			wantNoMeet(t, "with no node", s, meeting(wrong, node))
			wantNoMeet(t, "no node with itself", s, meeting(wrong, wrong))
		}
	}
	two := sprayOf(1, 5, 0)
	wantMeet(t, two, meeting(0, 1), true, 5, 0)
	wantNoMeet(t, "of 2 nodes", two, meeting(0, 2))
	wantNoMeet(t, "of 2 nodes", two, meeting(2, 1))
	all := sprayOf(7, 5, 0, 0, 0, 0, 0, 0, 0)
	wantMeet(t, all, meeting(0, 6), false, 3, 0, 0, 0, 0, 0, 2, 0)
	wantMeet(t, all, meeting(0, 7), true, 5, 0, 0, 0, 0, 0, 0, 0)
	wantNoMeet(t, "of MaxNodes nodes", all, meeting(0, 8))
}

func TestSpraysAtTheirBounds(t *testing.T) {
	for _, s := range []impl.Spray{
		sprayOf(0, 0, 1), sprayOf(1, 1, 0), sprayOf(0, 0, 64), sprayOf(1, 64, 0),
		sprayOf(7, 64, 0, 0, 0, 0, 0, 0, 0), sprayOf(0, 0, 0, 0, 0, 0, 0, 0, 1),
		sprayOf(3, 9, 9, 9, 0, 9, 9, 9, 10), sprayOf(2, 63, 1, 0), sprayOf(0, 0, 32, 32),
		{Tokens: []int{0, 64}, There: true}, {Tokens: []int{0, 1}, There: true},
	} {
		checkSpray(t, s)
		if !impl.GoodSpray(s) {
			t.Errorf("%+v is not good", s)
		}
	}
	if nodes, ok := impl.CarriersIn(someSpray()); !slices.Equal(nodes, []int{0, 1, 4, 5}) || !ok {
		t.Error(nodes, ok)
	}
	if many, ok := impl.TokensIn(someSpray()); many != 15 || !ok {
		t.Error(many, ok)
	}
}

func TestSpraysWrong(t *testing.T) {
	wantBadSpray(t, "nothing", impl.Spray{})
	wantBadSpray(t, "no nodes", sprayOf(0, []int{}...))
	for _, to := range []int{-1, 0, 1} {
		wantBadSpray(t, "one node", sprayOf(to, 0))
		wantBadSpray(t, "one node", sprayOf(to, 5))
	}
	for many := 9; many <= 12; many++ {
		tokens := make([]int, many)
		tokens[0] = 5
		wantBadSpray(t, "more than MaxNodes", sprayOf(1, tokens...))
		wantBadSpray(t, "more than MaxNodes", sprayOf(many-1, tokens...))
	}
	wantBadSpray(t, "many more than MaxNodes", sprayOf(1, append([]int{5}, make([]int, 500)...)...))
	for _, to := range append(wrongNodes(), 6, 7) {
		s := someSpray()
		s.To = to
		wantBadSpray(t, "To", s)
		wantBadSpray(t, "To of 2 nodes", sprayOf(to, 5, 0))
	}
	for nodes := 2; nodes <= 8; nodes++ {
		for to := range nodes {
			wantBadSpray(t, "none", sprayOf(to, make([]int, nodes)...))
			for _, has := range []int{1, 2, 64, -1, math.MaxInt, math.MinInt} {
				s, _ := plainNewSpray(nodes, (to+1)%nodes, to, 5)
				s.Tokens[to] = has
				wantBadSpray(t, "Tokens at To", s)
				s.Tokens[(to+1)%nodes] = 0
				wantBadSpray(t, "Tokens at To alone", s)
			}
		}
	}
}

// TestTokensWrong has one wrong number among right ones, or all of them together are too many.
func TestTokensWrong(t *testing.T) {
	for _, node := range []int{0, 1, 3, 4, 5} {
		for _, wrong := range []int{-1, -2, -15, -64, 65, 128, math.MinInt, math.MinInt + 1, math.MaxInt, math.MaxInt - 14, 1 << 32, -1 << 32, 1 + 1<<32, 1 << 62} {
			s := someSpray()
			s.Tokens[node] = wrong
			wantBadSpray(t, "Tokens", s)
		}
	}
	wantBadSpray(t, "together MaxCopies + 1", sprayOf(0, 0, 65))
	wantBadSpray(t, "together MaxCopies + 1", sprayOf(0, 0, 64, 1))
	wantBadSpray(t, "together MaxCopies + 1", sprayOf(2, 1, 64, 0))
	wantBadSpray(t, "together MaxCopies + 1", sprayOf(0, 0, 32, 33))
	wantBadSpray(t, "together MaxCopies + 1", sprayOf(3, 9, 9, 9, 0, 9, 9, 10, 10))
	wantBadSpray(t, "each MaxCopies", sprayOf(7, 64, 64, 64, 64, 64, 64, 64, 0))
	wantBadSpray(t, "one below 0, together enough", sprayOf(0, 0, -1, 5))
	wantBadSpray(t, "one below 0, together enough", sprayOf(0, 0, 5, -1))
	wantBadSpray(t, "one below 0, one above MaxCopies", sprayOf(0, 0, 65, -1))
	wantBadSpray(t, "one below 0, one above MaxCopies", sprayOf(0, 0, -1, 65))
	wantBadSpray(t, "round once", sprayOf(0, 0, math.MaxInt, math.MaxInt, 3))
	wantBadSpray(t, "round once", sprayOf(0, 0, math.MinInt, math.MinInt, 3))
	wantBadSpray(t, "round once", sprayOf(0, 0, 1<<62, 1<<62, 1<<62, 1<<62, 3))
}

func TestPlaySprayKnown(t *testing.T) {
	wantPlaySpray(t, 4, 0, 3, 4, []impl.Meet{{A: 0, B: 1}, {A: 2, B: 1}, {A: 2, B: 3}}, 3, 2, 1, 1, 0)
	wantPlaySpray(t, 4, 0, 3, 4, []impl.Meet{{A: 0, B: 1}, {A: 2, B: 1}}, 0, 2, 1, 1, 0)
	wantPlaySpray(t, 4, 0, 3, 4, []impl.Meet{{A: 2, B: 3}, {A: 2, B: 1}, {A: 1, B: 3}}, 0, 4, 0, 0, 0)
	// The first time counts, and not a later one with To.
	wantPlaySpray(t, 4, 0, 3, 4, []impl.Meet{{A: 0, B: 3}, {A: 0, B: 1}, {A: 1, B: 3}, {A: 3, B: 0}}, 1, 2, 2, 0, 0)
	wantPlaySpray(t, 4, 0, 3, 4, []impl.Meet{{A: 1, B: 3}, {A: 0, B: 1}, {A: 1, B: 3}, {A: 3, B: 0}, {A: 2, B: 3}}, 3, 2, 2, 0, 0)
	// Just one is never given, and gets there when it meets To.
	wantPlaySpray(t, 3, 1, 0, 1, []impl.Meet{{A: 1, B: 2}, {A: 2, B: 0}, {A: 1, B: 0}, {A: 2, B: 1}}, 3, 0, 1, 0)
	// 3, of which 1 is given; 2, of which 1 is; then no more.
	wantPlaySpray(t, 5, 0, 4, 3, []impl.Meet{{A: 0, B: 1}, {A: 0, B: 2}, {A: 0, B: 3}, {A: 1, B: 3}, {A: 3, B: 4}}, 0, 1, 1, 1, 0, 0)
	wantPlaySpray(t, 8, 7, 0, 64, []impl.Meet{{A: 7, B: 6}, {A: 6, B: 5}, {A: 5, B: 4}, {A: 4, B: 3}, {A: 3, B: 2}, {A: 2, B: 1}, {A: 1, B: 0}}, 7, 0, 1, 1, 2, 4, 8, 16, 32)
}

func TestPlaySprayWithoutMeetings(t *testing.T) {
	for _, l := range [][]impl.Meet{nil, {}} {
		wantPlaySpray(t, 2, 0, 1, 1, l, 0, 1, 0)
		wantPlaySpray(t, 2, 1, 0, 64, l, 0, 0, 64)
		wantPlaySpray(t, 8, 3, 7, 64, l, 0, 0, 0, 0, 64, 0, 0, 0, 0)
		wantNoPlaySpray(t, "one node", 1, 0, 1, 1, l)
		wantNoPlaySpray(t, "no copies", 2, 0, 1, 0, l)
	}
}

func TestPlaySprayOfMaxMeets(t *testing.T) {
	none := slices.Repeat([]impl.Meet{meeting(1, 2)}, 100)
	wantPlaySpray(t, 4, 0, 3, 5, none, 0, 5, 0, 0, 0)
	last := append(slices.Clone(none[:99]), meeting(3, 0))
	wantPlaySpray(t, 4, 0, 3, 5, last, 100, 5, 0, 0, 0)
	wantNoPlaySpray(t, "MaxMeets + 1", 4, 0, 3, 5, append(last, meeting(0, 1)))
	wantNoPlaySpray(t, "MaxMeets + 1", 4, 0, 3, 5, slices.Repeat([]impl.Meet{meeting(0, 3)}, 101))
	wantNoPlaySpray(t, "many more than MaxMeets", 4, 0, 3, 5, slices.Repeat(none, 40))
	for many := range 103 {
		checkPlaySpray(t, 2, 1, 0, 64, slices.Repeat([]impl.Meet{meeting(0, 1)}, many))
	}
}

func TestPlaySprayWrong(t *testing.T) {
	l := []impl.Meet{{A: 0, B: 1}, {A: 0, B: 2}, {A: 1, B: 3}, {A: 2, B: 3}}
	for _, wrong := range append(wrongNodes(), 4, 5) {
		wantNoPlaySpray(t, "from", 4, wrong, 3, 5, l)
		wantNoPlaySpray(t, "to", 4, 0, wrong, 5, l)
		wantNoPlaySpray(t, "both", 4, wrong, wrong, 5, l)
	}
	for _, nodes := range []int{math.MinInt, -4, 0, 1, 3, 9, 10, 1 << 32, math.MaxInt} {
		wantNoPlaySpray(t, "nodes", nodes, 0, 3, 5, l)
		if nodes != 3 {
			wantNoPlaySpray(t, "nodes", nodes, 0, 1, 5, nil)
		}
	}
	for _, copies := range []int{math.MinInt, -1, 0, 65, 100, 1 << 32, 1 + 1<<32, math.MaxInt} {
		wantNoPlaySpray(t, "copies", 4, 0, 3, copies, l)
		wantNoPlaySpray(t, "copies", 4, 0, 3, copies, nil)
	}
	for node := range 4 {
		wantNoPlaySpray(t, "from to itself", 4, node, node, 5, l)
		wantNoPlaySpray(t, "from to itself", 4, node, node, 5, nil)
	}
	// One meeting among many does not tell true, also where it was There long ahead of it.
	for at := range 100 {
		for _, m := range []impl.Meet{{A: 0, B: 0}, {A: 3, B: 3}, {A: 0, B: 4}, {A: 4, B: 0}, {A: -1, B: 0}, {A: 1, B: math.MaxInt}, {A: math.MinInt, B: 1}, {A: 7, B: 7}} {
			many := slices.Repeat(l, 25)
			many[at] = m
			wantNoPlaySpray(t, "one meeting", 4, 0, 3, 5, many)
		}
	}
}

// TestPlayEverySmallSpray plays all rows of few meetings of few nodes.
func TestPlayEverySmallSpray(t *testing.T) {
	var all []impl.Meet
	for a := range 4 {
		for b := range 4 {
			if a != b {
				all = append(all, meeting(a, b))
			}
		}
	}
	firsts := [5]int{}
	for n := range 12 * 12 * 12 * 12 {
		l := []impl.Meet{all[n%12], all[n/12%12], all[n/144%12], all[n/1728]}
		_, many, _ := checkPlaySpray(t, 4, 0, 3, 1+n%7, l)
		firsts[many]++
	}
	if slices.Min(firsts[:]) < 100 {
		t.Error(firsts)
	}
}

// Promise 15: tokens are neither lost nor made; checkMeet and checkPlaySpray hold them against those ahead.
func TestTokensAreNeitherLostNorMade(t *testing.T) {
	r := rand.New(rand.NewSource(15))
	there, full := 0, 0
	for range 4000 {
		nodes := 2 + r.Intn(7)
		from := r.Intn(nodes)
		to := (from + 1 + r.Intn(nodes-1)) % nodes
		copies := 1 + r.Intn([]int{4, 64}[r.Intn(2)])
		s, many, ok := checkPlaySpray(t, nodes, from, to, copies, anyMeets(r, nodes, r.Intn(101)))
		if !ok {
			t.Fatal("not played")
		}
		carriers, _ := impl.CarriersIn(s)
		if many > 0 {
			there++
		}
		if len(carriers) == copies || len(carriers) == nodes-1 {
			full++
		}
	}
	if there < 2000 || full < 1000 {
		t.Errorf("there %d times, %d times all that can", there, full)
	}
}

// TestCarriersNeverMoreThanCopies lets everybody meet everybody again and again.
func TestCarriersNeverMoreThanCopies(t *testing.T) {
	for nodes := 2; nodes <= 8; nodes++ {
		var l []impl.Meet
		for range 2 {
			for a := range nodes {
				for b := range a {
					l = append(l, meeting(a, b))
				}
			}
		}
		for copies := 1; copies <= 64; copies++ {
			for to := 1; to < nodes; to++ {
				s, _, ok := checkPlaySpray(t, nodes, 0, to, copies, l)
				carriers, _ := impl.CarriersIn(s)
				if !ok || len(carriers) != min(copies, nodes-1) || !s.There {
					t.Fatalf("%d of %d nodes carry %d copies: %+v, %v", len(carriers), nodes, copies, s, ok)
				}
			}
		}
	}
}

func TestSpraysMixed(t *testing.T) {
	r := rand.New(rand.NewSource(151))
	did, not := 0, 0
	for range 30000 {
		s := anySpray(r)
		if r.Intn(3) == 0 { // breaks one rule, or now and then none
			switch r.Intn(4) {
			case 0:
				s.To = r.Intn(11) - 1
			case 1:
				s.Tokens[r.Intn(len(s.Tokens))] = r.Intn(70) - 2
			case 2:
				s.Tokens = append(s.Tokens, make([]int, 9-len(s.Tokens))...)
			case 3:
				s.Tokens = s.Tokens[:r.Intn(len(s.Tokens))]
			}
		}
		checkSpray(t, s)
		if _, ok := checkMeet(t, s, meeting(r.Intn(10)-1, r.Intn(10)-1)); ok {
			did++
		} else {
			not++
		}
	}
	if did < 3000 || not < 3000 {
		t.Errorf("%d met, %d not", did, not)
	}
}

// TestSprayBehindItsLength has more behind the length of its lists, which is neither read nor written.
func TestSprayBehindItsLength(t *testing.T) {
	for _, behind := range []int{0, 1, 65, -1, math.MinInt} {
		tokens := []int{9, 1, 0, 0, behind, behind, behind, behind, behind}
		was := slices.Clone(tokens)
		s := impl.Spray{Tokens: tokens[:4], To: 2}
		wantMeet(t, s, meeting(0, 3), false, 5, 1, 0, 4)
		wantMeet(t, s, meeting(0, 2), true, 9, 1, 0, 0)
		wantNoMeet(t, "behind the last", s, meeting(0, 4))
		checkSpray(t, s)
		wantBadSpray(t, "To behind the last", impl.Spray{Tokens: tokens[:4], To: 4})
		l := []impl.Meet{meeting(0, 1), meeting(0, 3), meeting(behind, behind), meeting(0, 2)}
		met := slices.Clone(l)
		wantPlaySpray(t, 4, 0, 2, 9, l[:2], 0, 3, 4, 0, 2)
		if !slices.Equal(tokens, was) || !slices.Equal(l, met) {
			t.Errorf("written behind: %v, %v", tokens, l)
		}
	}
}

// TestSprayNewMemory asks again behind an answer that was written over.
func TestSprayNewMemory(t *testing.T) {
	s := someSpray()
	l := []impl.Meet{meeting(0, 1), meeting(0, 2)}
	ask := map[string]func() []int{
		"NewSpray":               func() []int { x, _ := impl.NewSpray(5, 1, 2, 30); return x.Tokens },
		"MeetBoth":               func() []int { x, _ := impl.MeetBoth(s, meeting(0, 3)); return x.Tokens },
		"MeetBoth with To":       func() []int { x, _ := impl.MeetBoth(s, meeting(0, 2)); return x.Tokens },
		"MeetBoth, nothing":      func() []int { x, _ := impl.MeetBoth(s, meeting(0, 1)); return x.Tokens },
		"PlaySpray":              func() []int { x, _, _ := impl.PlaySpray(5, 0, 2, 30, l); return x.Tokens },
		"PlaySpray, no meetings": func() []int { x, _, _ := impl.PlaySpray(5, 0, 2, 30, nil); return x.Tokens },
		"CarriersIn":             func() []int { nodes, _ := impl.CarriersIn(s); return nodes },
	}
	for what, again := range ask {
		want := slices.Clone(again())
		first, second := again(), again()
		first = first[:cap(first)]
		for i := range first {
			first[i] = -77
		}
		if len(want) == 0 || !slices.Equal(second, want) || !slices.Equal(again(), want) || !sameSpray(s, someSpray()) {
			t.Errorf("%s: %v, %+v", what, second, s)
		}
	}
}
