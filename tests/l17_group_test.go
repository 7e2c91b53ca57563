package tests

import (
	"fmt"
	"math"
	"math/rand"
	"slices"
	"strings"
	"testing"

	"loop.example/g00315/impl"
)

// groupBundle is what the plan is asked about; To, No and Payload are of no matter to it.
func groupBundle(from int, made int, life int, hops int) impl.Bundle {
	return impl.Bundle{From: from, To: 40, Group: true, Made: made, No: 3, Life: life, Hops: hops, Payload: "news"}
}

func reach(member int, when int, over ...int) impl.Reach {
	return impl.Reach{Member: member, When: when, Over: over}
}

func sameReach(a impl.Reach, b impl.Reach) bool {
	return a.Member == b.Member && a.When == b.When && slices.Equal(a.Over, b.Over)
}

func sameReaches(a []impl.Reach, b []impl.Reach) bool {
	return slices.EqualFunc(a, b, sameReach)
}

// plainFits takes one rule after the other.
func plainFits(l []impl.Contact, b impl.Bundle) bool {
	return plainPlan(l) && plainGood(b) && b.Total == 0 && b.From < 8 && b.Made <= 1000
}

// plainReaches asks for each member's route by the document's words.
func plainReaches(l []impl.Contact, b impl.Bundle, members []int) ([]impl.Reach, bool) {
	if !plainFits(l, b) || !plainRising(members, 8) {
		return nil, false
	}
	var reaches []impl.Reach
	for _, member := range members {
		over, when, ok := plainRoute(l, b.From, b.Made, member)
		if ok && when-b.Made <= b.Life && len(over) <= b.Hops {
			reaches = append(reaches, reach(member, when, over...))
		}
	}
	return reaches, true
}

// plainTreeFor marks each contact that somebody is reached over.
func plainTreeFor(reaches []impl.Reach) []int {
	marks, tree := [20]bool{}, []int{}
	for _, r := range reaches {
		for _, k := range r.Over {
			marks[k] = true
		}
	}
	for k, marked := range marks {
		if marked {
			tree = append(tree, k)
		}
	}
	return tree
}

// checkGroup asks ReachAll, TreeFor and DeliveredBy, as said or not.
func checkGroup(t *testing.T, l []impl.Contact, b impl.Bundle, members []int) []impl.Reach {
	t.Helper()
	plan, group, was := slices.Clone(l), slices.Clone(members), b
	want, can := plainReaches(l, b, members)
	reaches, ok := impl.ReachAll(l, b, members)
	if !sameReaches(reaches, want) || ok != can {
		t.Fatalf("ReachAll(%v, %+v, %v) = %+v, %v, not %+v, %v", l, b, members, reaches, ok, want, can)
	}
	for _, r := range reaches {
		over, when, ok := impl.RouteTo(l, b.From, b.Made, r.Member)
		if !sameReach(r, reach(r.Member, when, over...)) || !ok {
			t.Fatalf("ReachAll(%v, %+v, %v) has %+v where RouteTo told %d, %v", l, b, members, r, when, over)
		}
	}
	if tree, ok := impl.TreeFor(l, b, members); !slices.Equal(tree, plainTreeFor(want)) || ok != can {
		t.Fatalf("TreeFor(%v, %+v, %v) = %v, %v, not %v, %v", l, b, members, tree, ok, plainTreeFor(want), can)
	}
	checkDelivered(t, l, b, members, want, can)
	if !slices.Equal(l, plan) || !slices.Equal(members, group) || b != was {
		t.Fatalf("written into: %v, %v, %+v, once %v, %v, %+v", l, members, b, plan, group, was)
	}
	return reaches
}

// checkDelivered asks at the ends of all times, at each When and beside it.
func checkDelivered(t *testing.T, l []impl.Contact, b impl.Bundle, members []int, reaches []impl.Reach, can bool) {
	t.Helper()
	times := []int{math.MinInt, -1, 0, 1, 999, 1000, 1001, 1999, 2000, 2001, math.MaxInt}
	for _, r := range reaches {
		times = append(times, r.When-1, r.When, r.When+1)
	}
	for _, now := range times {
		var want []int
		can := can && now >= 0 && now <= 2000
		for _, r := range reaches {
			if can && r.When <= now {
				want = append(want, r.Member)
			}
		}
		if there, ok := impl.DeliveredBy(l, b, members, now); !slices.Equal(there, want) || ok != can {
			t.Fatalf("DeliveredBy(%v, %+v, %v, %d) = %v, %v, not %v, %v", l, b, members, now, there, ok, want, can)
		}
	}
}

// wantReaches asks for them and for their contacts.
func wantReaches(t *testing.T, l []impl.Contact, b impl.Bundle, members []int, want ...impl.Reach) {
	t.Helper()
	checkGroup(t, l, b, members)
	if got, ok := impl.ReachAll(l, b, members); !sameReaches(got, want) || !ok {
		t.Errorf("ReachAll(%v, %+v, %v) = %+v, %v, not %+v", l, b, members, got, ok, want)
	}
}

func wantTreeFor(t *testing.T, l []impl.Contact, b impl.Bundle, members []int, want ...int) {
	t.Helper()
	checkGroup(t, l, b, members)
	if got, ok := impl.TreeFor(l, b, members); !slices.Equal(got, want) || !ok {
		t.Errorf("TreeFor(%v, %+v, %v) = %v, %v, not %v", l, b, members, got, ok, want)
	}
}

func wantDelivered(t *testing.T, l []impl.Contact, b impl.Bundle, members []int, now int, want ...int) {
	t.Helper()
	checkGroup(t, l, b, members)
	if got, ok := impl.DeliveredBy(l, b, members, now); !slices.Equal(got, want) || !ok {
		t.Errorf("DeliveredBy(%v, %+v, %v, %d) = %v, %v, not %v", l, b, members, now, got, ok, want)
	}
}

// wantNoGroup asks for the zero answer of all that are asked about members.
func wantNoGroup(t *testing.T, what string, l []impl.Contact, b impl.Bundle, members []int) {
	t.Helper()
	checkGroup(t, l, b, members)
	if got, ok := impl.ReachAll(l, b, members); len(got) != 0 || ok {
		t.Errorf("%s: ReachAll(%v, %+v, %v) = %+v, %v", what, l, b, members, got, ok)
	}
	if got, ok := impl.TreeFor(l, b, members); len(got) != 0 || ok {
		t.Errorf("%s: TreeFor(%v, %+v, %v) = %v, %v", what, l, b, members, got, ok)
	}
	for _, now := range []int{0, 500, 2000} {
		if got, ok := impl.DeliveredBy(l, b, members, now); len(got) != 0 || ok {
			t.Errorf("%s: DeliveredBy(%v, %+v, %v, %d) = %v, %v", what, l, b, members, now, got, ok)
		}
	}
}

// everybody are all nodes, eight members.
func everybody() []int {
	return []int{0, 1, 2, 3, 4, 5, 6, 7}
}

// rowPlan leads from each node to the next one, a contact open at all times between two.
func rowPlan(delay int) []impl.Contact {
	var l []impl.Contact
	for node := range 7 {
		l = append(l, meets(node, node+1, 0, 1000, delay))
	}
	return l
}

func TestGroupConstants(t *testing.T) {
	if impl.MaxMembers != 8 {
		t.Error(impl.MaxMembers)
	}
}

func TestReachAllKnown(t *testing.T) {
	l := someLate()
	b := groupBundle(0, 0, 200, 3)
	wantReaches(t, l, b, everybody(), reach(0, 0), reach(1, 7, 0), reach(2, 21, 0, 2), reach(3, 121, 0, 2, 5))
	wantReaches(t, l, b, []int{1, 3}, reach(1, 7, 0), reach(3, 121, 0, 2, 5))
	wantReaches(t, l, b, []int{2}, reach(2, 21, 0, 2))
	wantReaches(t, l, b, []int{4, 5, 6, 7})
	wantReaches(t, l, groupBundle(0, 9, 200, 3), everybody(), reach(0, 9), reach(1, 11, 0), reach(2, 21, 0, 2), reach(3, 121, 0, 2, 5))
	wantReaches(t, l, groupBundle(0, 10, 200, 3), everybody(), reach(0, 10), reach(2, 40, 3))
	wantReaches(t, l, groupBundle(0, 50, 200, 3), everybody(), reach(0, 50))
	wantReaches(t, l, groupBundle(2, 0, 200, 3), everybody(), reach(0, 15, 4), reach(2, 0), reach(3, 100, 5), reach(4, 100, 5, 6))
	wantReaches(t, l, groupBundle(7, 0, 200, 3), everybody(), reach(7, 0))
	wantReaches(t, l, groupBundle(4, 999, 3, 1), everybody(), reach(3, 1002, 7), reach(4, 999))
}

// TestReachAllByHand holds each member against a route that was looked for on paper, one asked by itself and with the others.
func TestReachAllByHand(t *testing.T) {
	l := []impl.Contact{
		meets(0, 1, 0, 100, 10), meets(1, 2, 0, 100, 10), meets(0, 2, 30, 100, 10), // 2 at 20 over 1, at 40 right away
		meets(0, 3, 0, 100, 50), meets(1, 3, 0, 100, 50), // 3 at 50 right away
		meets(2, 4, 0, 19, 0), meets(2, 4, 60, 61, 0), meets(3, 4, 0, 100, 5), // 4 at 55 over 3
		meets(4, 5, 55, 56, 100), meets(4, 5, 56, 200, 99), // 5 at 155 by either: the first
		meets(6, 7, 0, 1000, 0), // nobody comes to 6
	}
	want := []impl.Reach{reach(0, 0), reach(1, 10, 0), reach(2, 20, 0, 1), reach(3, 50, 3), reach(4, 55, 3, 7), reach(5, 155, 3, 7, 8)}
	b := groupBundle(0, 0, 155, 3)
	wantReaches(t, l, b, everybody(), want...)
	for _, r := range want {
		wantReaches(t, l, b, []int{r.Member}, r)
	}
	for _, nobody := range []int{6, 7} {
		wantReaches(t, l, b, []int{nobody})
	}
	wantTreeFor(t, l, b, everybody(), 0, 1, 3, 7, 8)
	for bits := range 256 {
		checkGroup(t, l, b, chosen(bits))
		checkGroup(t, l, groupBundle(0, 0, 50, 1), chosen(bits))
	}
}

// TestInTimeAndLate has one there just at Made and Life together, and one later.
func TestInTimeAndLate(t *testing.T) {
	for _, delay := range []int{1, 2, 50, 99, 100} {
		l := []impl.Contact{meets(0, 7, 20, 1000, delay)}
		for _, made := range []int{0, 1, 19, 20, 21, 500, 999} {
			there := max(made, 20) + delay
			for _, life := range []int{there - made, there - made + 1, 5000, 1000000} {
				wantReaches(t, l, groupBundle(0, made, life, 1), []int{0, 7}, reach(0, made), reach(7, there, 0))
				wantTreeFor(t, l, groupBundle(0, made, life, 1), []int{0, 7}, 0)
			}
			for _, life := range []int{1, there - made - 1} {
				if life > 0 && life < there-made {
					wantReaches(t, l, groupBundle(0, made, life, 1), []int{0, 7}, reach(0, made))
					wantTreeFor(t, l, groupBundle(0, made, life, 1), []int{0, 7})
				}
			}
		}
		wantReaches(t, l, groupBundle(0, 1000, 1000000, 30), []int{0, 7}, reach(0, 1000))
	}
}

// TestFewerContactsAreNotTried: the earliest row has too many contacts, and another one that has few enough is not looked for.
func TestFewerContactsAreNotTried(t *testing.T) {
	l := []impl.Contact{meets(0, 1, 0, 10, 1), meets(1, 2, 0, 10, 1), meets(0, 2, 0, 10, 3)}
	wantReaches(t, l, groupBundle(0, 0, 50, 2), []int{1, 2}, reach(1, 1, 0), reach(2, 2, 0, 1))
	wantReaches(t, l, groupBundle(0, 0, 50, 1), []int{1, 2}, reach(1, 1, 0))
	wantReaches(t, l, groupBundle(0, 0, 50, 0), []int{1, 2})
}

// TestAsManyContactsAsHops goes along a row, with as many Hops as it is long, and one less.
func TestAsManyContactsAsHops(t *testing.T) {
	l := rowPlan(4)
	for from := range 8 {
		for hops := range 9 {
			b := groupBundle(from, 10, 1000, hops)
			var want []impl.Reach
			var tree []int
			for member := from; member < 8 && member-from <= hops; member++ {
				var over []int
				for k := from; k < member; k++ {
					over = append(over, k)
				}
				want = append(want, reach(member, 10+4*len(over), over...))
				tree = over
			}
			wantReaches(t, l, b, everybody(), want...)
			wantTreeFor(t, l, b, everybody(), tree...)
			if last := min(from+hops, 7); last-from == hops {
				wantReaches(t, l, b, []int{last}, want[len(want)-1])
			}
			if from+hops < 7 {
				wantReaches(t, l, b, []int{from + hops + 1})
			}
		}
	}
	for _, hops := range []int{7, 8, 29, 30} {
		wantTreeFor(t, l, groupBundle(0, 0, 1000, hops), []int{7}, 0, 1, 2, 3, 4, 5, 6)
	}
}

// TestTheSenderAMember needs no contact, no Hops and no time.
func TestTheSenderAMember(t *testing.T) {
	for from := range 8 {
		for _, made := range []int{0, 1, 999, 1000} {
			for _, l := range [][]impl.Contact{nil, {}, someLate(), rowPlan(0)} {
				b := groupBundle(from, made, 1, 0)
				wantReaches(t, l, b, []int{from}, reach(from, made))
				wantReaches(t, l, b, everybody(), reach(from, made))
				wantTreeFor(t, l, b, everybody())
				wantDelivered(t, l, b, everybody(), made, from)
				if made > 0 {
					wantDelivered(t, l, b, everybody(), made-1)
				}
			}
		}
	}
}

func TestNoMembers(t *testing.T) {
	for _, none := range [][]int{nil, {}, everybody()[:0]} {
		for _, l := range [][]impl.Contact{nil, someLate()} {
			b := groupBundle(0, 0, 100, 5)
			wantReaches(t, l, b, none)
			wantTreeFor(t, l, b, none)
			wantDelivered(t, l, b, none, 0)
			wantDelivered(t, l, b, none, 2000)
		}
	}
	wantNoGroup(t, "a bundle that does not fit", nil, impl.Bundle{}, nil)
}

// TestGroupOfMaxContacts has all of them taken, eight members, and one contact more.
func TestGroupOfMaxContacts(t *testing.T) {
	l := append(rowPlan(1), slices.Repeat([]impl.Contact{meets(0, 1, 0, 1000, 100)}, 13)...)
	b := groupBundle(0, 0, 7, 7)
	wantTreeFor(t, l, b, everybody(), 0, 1, 2, 3, 4, 5, 6)
	wantNoGroup(t, "one more than MaxContacts", append(l, meets(0, 1, 0, 10, 5)), b, everybody())
	var star []impl.Contact
	for node := 1; node < 8; node++ {
		star = append(star, meets(0, node, 10*node, 1000, 0), meets(0, node, 0, 1000, 90))
	}
	star = append(star, slices.Repeat([]impl.Contact{meets(7, 0, 0, 1000, 0)}, 6)...)
	var want []impl.Reach
	for node := range 8 {
		r := reach(node, 10*node)
		if node > 0 {
			r.Over = []int{2 * (node - 1)}
		}
		want = append(want, r)
	}
	wantReaches(t, star, groupBundle(0, 0, 70, 1), everybody(), want...)
	wantReaches(t, star, groupBundle(0, 0, 69, 1), everybody(), want[:7]...)
	wantTreeFor(t, star, groupBundle(0, 0, 70, 1), everybody(), 0, 2, 4, 6, 8, 10, 12)
	// The last contact of MaxContacts is told, too.
	last := append(slices.Repeat([]impl.Contact{meets(3, 4, 0, 1, 0)}, 19), meets(0, 7, 0, 1000, 0))
	wantTreeFor(t, last, groupBundle(0, 0, 1, 1), everybody(), 19)
}

// TestTreeEachOnce: contacts that several are reached over are told once, in the order of their numbers.
func TestTreeEachOnce(t *testing.T) {
	l := []impl.Contact{meets(2, 3, 0, 1000, 1), meets(1, 2, 0, 1000, 1), meets(0, 1, 0, 1000, 1), meets(2, 4, 0, 1000, 1)}
	b := groupBundle(0, 0, 100, 3)
	wantReaches(t, l, b, []int{2, 3, 4}, reach(2, 2, 2, 1), reach(3, 3, 2, 1, 0), reach(4, 3, 2, 1, 3))
	wantTreeFor(t, l, b, []int{2, 3, 4}, 0, 1, 2, 3)
	wantTreeFor(t, l, b, []int{3, 4}, 0, 1, 2, 3)
	wantTreeFor(t, l, b, []int{4}, 1, 2, 3)
	wantTreeFor(t, l, b, []int{1, 4}, 1, 2, 3)
	wantTreeFor(t, l, b, []int{0, 5})
	b.Hops = 2
	wantTreeFor(t, l, b, []int{2, 3, 4}, 1, 2)
	b.Life = 1
	wantTreeFor(t, l, b, []int{1, 2, 3, 4}, 2)
}

// TestDeliveredAtEachTime holds it against When, time by time.
func TestDeliveredAtEachTime(t *testing.T) {
	late := meets(0, 6, 999, 1000, 100)
	for _, l := range [][]impl.Contact{someLate(), append(someLate(), late)} {
		for _, b := range []impl.Bundle{groupBundle(0, 0, 2000, 30), groupBundle(0, 3, 118, 30), groupBundle(2, 0, 1000, 1)} {
			reaches := checkGroup(t, l, b, everybody())
			for now := range 2001 {
				var want []int
				for _, r := range reaches {
					if r.When <= now {
						want = append(want, r.Member)
					}
				}
				if got, ok := impl.DeliveredBy(l, b, everybody(), now); !slices.Equal(got, want) || !ok {
					t.Fatalf("DeliveredBy(%v, %+v, all, %d) = %v, %v, not %v", l, b, now, got, ok, want)
				}
			}
		}
	}
	l := append(someLate(), late)
	b := groupBundle(0, 0, 2000, 30)
	wantDelivered(t, l, b, everybody(), 0, 0)
	wantDelivered(t, l, b, everybody(), 6, 0)
	wantDelivered(t, l, b, everybody(), 7, 0, 1)
	wantDelivered(t, l, b, everybody(), 120, 0, 1, 2)
	wantDelivered(t, l, b, everybody(), 121, 0, 1, 2, 3)
	wantDelivered(t, l, b, everybody(), 1098, 0, 1, 2, 3)
	wantDelivered(t, l, b, everybody(), 1099, 0, 1, 2, 3, 6)
	wantDelivered(t, l, b, everybody(), 2000, 0, 1, 2, 3, 6)
	wantDelivered(t, l, b, []int{2, 6}, 2000, 2, 6)
	// Who is there later than another one with a greater number is told ahead of it all the same, or not yet.
	turned := []impl.Contact{meets(7, 1, 30, 40, 0), meets(7, 2, 20, 40, 0), meets(7, 3, 10, 40, 0)}
	c := groupBundle(7, 5, 100, 1)
	wantDelivered(t, turned, c, everybody(), 4)
	wantDelivered(t, turned, c, everybody(), 5, 7)
	wantDelivered(t, turned, c, everybody(), 10, 3, 7)
	wantDelivered(t, turned, c, everybody(), 29, 2, 3, 7)
	wantDelivered(t, turned, c, everybody(), 30, 1, 2, 3, 7)
}

func TestDeliveredWrongTimes(t *testing.T) {
	for _, now := range []int{math.MinInt, -2000, -1, 2001, 2002, 5000, 1000000, 1 << 32, math.MaxInt} {
		for _, members := range [][]int{nil, {0}, everybody()} {
			if got, ok := impl.DeliveredBy(someLate(), groupBundle(0, 0, 200, 3), members, now); len(got) != 0 || ok {
				t.Errorf("DeliveredBy(.., %v, %d) = %v, %v", members, now, got, ok)
			}
		}
	}
}

// plainJoin marks who is in either.
func plainJoin(a []int, b []int) ([]int, bool) {
	if !plainRising(a, 8) || !plainRising(b, 8) {
		return nil, false
	}
	var both []int
	for node := range 8 {
		for _, n := range append(append([]int{}, a...), b...) {
			if n == node {
				both = append(both, node)
				break
			}
		}
	}
	return both, true
}

func checkJoin(t *testing.T, a []int, b []int) {
	t.Helper()
	was, once := slices.Clone(a), slices.Clone(b)
	want, can := plainJoin(a, b)
	if got, ok := impl.JoinMembers(a, b); !slices.Equal(got, want) || ok != can {
		t.Fatalf("JoinMembers(%v, %v) = %v, %v, not %v, %v", a, b, got, ok, want, can)
	}
	if !slices.Equal(a, was) || !slices.Equal(b, once) {
		t.Fatalf("written into: %v, %v, once %v, %v", a, b, was, once)
	}
}

func wantJoin(t *testing.T, a []int, b []int, want ...int) {
	t.Helper()
	for _, x := range [][2][]int{{a, b}, {b, a}} {
		checkJoin(t, x[0], x[1])
		if got, ok := impl.JoinMembers(x[0], x[1]); !slices.Equal(got, want) || !ok {
			t.Errorf("JoinMembers(%v, %v) = %v, %v, not %v", x[0], x[1], got, ok, want)
		}
	}
}

func TestJoinKnown(t *testing.T) {
	wantJoin(t, []int{1, 3, 5}, []int{0, 3, 7}, 0, 1, 3, 5, 7)
	wantJoin(t, []int{1, 3}, []int{1, 3}, 1, 3)
	wantJoin(t, []int{2}, []int{2}, 2)
	wantJoin(t, []int{4, 6}, nil, 4, 6)
	wantJoin(t, nil, nil)
	wantJoin(t, []int{}, []int{})
	wantJoin(t, []int{0}, []int{7}, 0, 7)
	wantJoin(t, []int{0, 1, 2, 3}, []int{4, 5, 6, 7}, everybody()...)
	wantJoin(t, []int{0, 2, 4, 6}, []int{1, 3, 5, 7}, everybody()...)
	wantJoin(t, everybody(), everybody(), everybody()...)
	wantJoin(t, everybody(), nil, everybody()...)
	wantJoin(t, []int{2, 3, 4}, []int{3}, 2, 3, 4)
	same := []int{1, 2, 6}
	wantJoin(t, same, same, 1, 2, 6)
	wantJoin(t, same[:2], same[1:], 1, 2, 6)
}

// TestJoinEveryTwo joins all that there are.
func TestJoinEveryTwo(t *testing.T) {
	for a := range 256 {
		for b := range 256 {
			checkJoin(t, chosen(a), chosen(b))
			if got, ok := impl.JoinMembers(chosen(a), chosen(b)); !slices.Equal(got, chosen(a|b)) || !ok {
				t.Fatalf("JoinMembers(%v, %v) = %v, %v", chosen(a), chosen(b), got, ok)
			}
		}
	}
}

func wrongMembers() map[string][]int {
	return map[string][]int{
		"fall":                {2, 1},
		"fall at last":        {0, 1, 2, 5, 3},
		"twice":               {1, 1},
		"twice, at first":     {0, 0, 1, 2},
		"twice, at last":      {0, 3, 7, 7},
		"twice, one between":  {3, 4, 3},
		"-1":                  {-1},
		"-1 at first":         {-1, 0, 1},
		"MaxNodes":            {8},
		"MaxNodes at last":    {0, 1, 8},
		"MaxNode":             {40},
		"least of all":        {math.MinInt},
		"most of all":         {math.MaxInt},
		"both ends":           {math.MinInt, 0, math.MaxInt},
		"nine":                {0, 1, 2, 3, 4, 5, 6, 7, 8},
		"nine, one twice":     {0, 1, 2, 3, 4, 4, 5, 6, 7},
		"nine from -1":        {-1, 0, 1, 2, 3, 4, 5, 6, 7},
		"all of them twice":   slices.Repeat(everybody(), 2),
		"far too many":        make([]int, 100000),
		"wraps round as 8bit": {256},
	}
}

func TestMembersWrong(t *testing.T) {
	for what, members := range wrongMembers() {
		wantNoGroup(t, what, someLate(), groupBundle(0, 0, 200, 3), members)
		wantNoGroup(t, what, nil, groupBundle(7, 1000, 1, 0), members)
		for _, right := range [][]int{nil, {0}, {3, 4}, everybody(), members} {
			for _, x := range [][2][]int{{members, right}, {right, members}} {
				checkJoin(t, x[0], x[1])
				if got, ok := impl.JoinMembers(x[0], x[1]); len(got) != 0 || ok {
					t.Errorf("%s: JoinMembers(%v, %v) = %v, %v", what, x[0], x[1], got, ok)
				}
			}
		}
	}
}

// unfitBundles do not fit any plan, each for one reason.
func unfitBundles() map[string]impl.Bundle {
	wrong := map[string]impl.Bundle{}
	spoil := func(what string, change func(b *impl.Bundle)) {
		b := groupBundle(0, 0, 200, 3)
		change(&b)
		wrong[what] = b
	}
	for _, n := range []int{math.MinInt, -1, 1 << 32, math.MaxInt} {
		spoil(fmt.Sprint("From ", n), func(b *impl.Bundle) { b.From = n })
		spoil(fmt.Sprint("To ", n), func(b *impl.Bundle) { b.To = n })
		spoil(fmt.Sprint("Made ", n), func(b *impl.Bundle) { b.Made = n })
		spoil(fmt.Sprint("No ", n), func(b *impl.Bundle) { b.No = n })
		spoil(fmt.Sprint("Life ", n), func(b *impl.Bundle) { b.Life = n })
		spoil(fmt.Sprint("Hops ", n), func(b *impl.Bundle) { b.Hops = n })
		spoil(fmt.Sprint("Offset ", n), func(b *impl.Bundle) { b.Offset = n })
		spoil(fmt.Sprint("Total ", n), func(b *impl.Bundle) { b.Total = n })
	}
	spoil("From MaxNodes", func(b *impl.Bundle) { b.From = 8 })
	spoil("From 9", func(b *impl.Bundle) { b.From = 9 })
	spoil("From MaxNode", func(b *impl.Bundle) { b.From = 40 })
	spoil("From no node of bundles", func(b *impl.Bundle) { b.From = 41 })
	spoil("To no node of bundles", func(b *impl.Bundle) { b.To = 41 })
	spoil("Made behind MaxWhen", func(b *impl.Bundle) { b.Made = 1001 })
	spoil("Made MaxTime", func(b *impl.Bundle) { b.Made = 1000000 })
	spoil("Made behind MaxTime", func(b *impl.Bundle) { b.Made = 1000001 })
	spoil("No above", func(b *impl.Bundle) { b.No = 1001 })
	spoil("no Life", func(b *impl.Bundle) { b.Life = 0 })
	spoil("Life behind MaxTime", func(b *impl.Bundle) { b.Life = 1000001 })
	spoil("Hops above", func(b *impl.Bundle) { b.Hops = 31 })
	spoil("a piece of itself", func(b *impl.Bundle) { b.Total = 4 })
	spoil("a first piece", func(b *impl.Bundle) { b.Total = 60 })
	spoil("a last piece", func(b *impl.Bundle) { b.Total, b.Offset = 60, 56 })
	spoil("a place without a Total", func(b *impl.Bundle) { b.Offset = 1 })
	spoil("a piece too long", func(b *impl.Bundle) { b.Total, b.Offset = 6, 3 })
	spoil("a payload too long", func(b *impl.Bundle) { b.Payload = strings.Repeat("x", 61) })
	wrong["nothing"] = impl.Bundle{}
	return wrong
}

func TestBundlesThatDoNotFit(t *testing.T) {
	for what, b := range unfitBundles() {
		if plainFits(nil, b) {
			t.Errorf("%s: %+v fits", what, b)
		}
		for _, l := range [][]impl.Contact{nil, someLate(), rowPlan(0)} {
			for _, members := range [][]int{nil, {0}, {1}, everybody()} {
				wantNoGroup(t, what, l, b, members)
			}
			for to := range 8 {
				wantNoFollow(t, what, l, b, to)
				wantNoForward(t, what, l, b, 0, 0, to)
				wantNoForward(t, what, l, b, 1, 5, to)
			}
		}
	}
}

// TestWhatABundleIsToThePlan: nothing but From, Made, Life and Hops is of any matter, as long as it is good.
func TestWhatABundleIsToThePlan(t *testing.T) {
	l := someLate()
	for _, to := range []int{0, 1, 7, 8, 40} {
		for _, no := range []int{0, 1, 1000} {
			for _, payload := range []string{"", "x", strings.Repeat("\xff", 60)} {
				for _, group := range []bool{false, true} {
					b := impl.Bundle{From: 0, To: to, Group: group, No: no, Life: 200, Hops: 2, Payload: payload}
					wantReaches(t, l, b, everybody(), reach(0, 0), reach(1, 7, 0), reach(2, 21, 0, 2))
					wantTreeFor(t, l, b, everybody(), 0, 2)
					wantForward(t, l, b, 0, 0, 3, 0, 7)
					wantFollow(t, l, b, 3, 121, 0, 2, 5)
				}
			}
		}
	}
	for _, life := range []int{121, 122, 1000, 999999, 1000000} {
		wantReaches(t, l, groupBundle(0, 0, life, 30), []int{3}, reach(3, 121, 0, 2, 5))
	}
}

func TestGroupPlansWrong(t *testing.T) {
	for what, c := range wrongContacts() {
		for _, l := range [][]impl.Contact{{c}, append([]impl.Contact{c}, someLate()...), append(someLate(), c)} {
			for _, members := range [][]int{nil, {0}, {1, 2}, everybody()} {
				wantNoGroup(t, what, l, groupBundle(0, 0, 200, 3), members)
			}
			for _, to := range []int{0, 1, 2, 7} {
				wantNoFollow(t, what, l, groupBundle(0, 0, 200, 3), to)
				wantNoForward(t, what, l, groupBundle(0, 0, 200, 3), 0, 0, to)
			}
		}
	}
}

// groupOf is a group of drawn members, sometimes none.
func groupOf(r *rand.Rand) []int {
	return chosen(r.Intn(256))
}

// openPlan is a drawn plan; of every other one the contacts stay open, so that who comes late is still let over.
func openPlan(r *rand.Rand, nodes int, until int) []impl.Contact {
	l := somePlan(r, max(r.Intn(41)-20, r.Intn(21)), nodes, until)
	if r.Intn(2) == 0 {
		for k := range l {
			l[k].End = 1000
		}
	}
	return l
}

// fitting is a bundle that fits, from one of so many nodes, often late and often with few Hops.
func fitting(r *rand.Rand, nodes int, until int) impl.Bundle {
	b := someBundle(r)
	b.Offset, b.Total = 0, 0
	b.From, b.Made, b.Hops = r.Intn(nodes), r.Intn(1+until/4), []int{0, 1, 2, 3, 7, 30}[r.Intn(6)]
	b.Life = 1 + r.Intn(2*until)
	if r.Intn(8) == 0 {
		b.Made = []int{0, 1000}[r.Intn(2)]
	}
	return b
}

func TestGroupsMixed(t *testing.T) {
	r := rand.New(rand.NewSource(17))
	many, left := [9]int{}, 0
	for range 6000 {
		nodes, until := 2+r.Intn(7), []int{3, 20, 200, 1000}[r.Intn(4)]
		l, b, members := openPlan(r, nodes, until), fitting(r, nodes, until), groupOf(r)
		switch r.Intn(20) {
		case 0:
			b = someBundle(r)
		case 1:
			members = append(members, r.Intn(10)-1)
		case 2:
			l = append(l, meets(r.Intn(10)-1, r.Intn(10)-1, r.Intn(3)-1, r.Intn(1003), r.Intn(103)-1))
		}
		reaches := checkGroup(t, l, b, members)
		many[len(reaches)]++
		if len(reaches) < len(members) {
			left++
		}
		checkJoin(t, members, groupOf(r))
	}
	if slices.Min(many[:6]) < 20 || left < 1000 {
		t.Error(many, left)
	}
}

// TestGroupJoined: who is reached does not hang on who is asked about with him.
func TestGroupJoined(t *testing.T) {
	r := rand.New(rand.NewSource(1717))
	for range 1000 {
		l, b := openPlan(r, 8, 30), fitting(r, 8, 30)
		one, other := groupOf(r), groupOf(r)
		both, ok := impl.JoinMembers(one, other)
		if !ok {
			t.Fatalf("JoinMembers(%v, %v) is false", one, other)
		}
		now := r.Intn(150)
		there, _ := impl.DeliveredBy(l, b, one, now)
		too, _ := impl.DeliveredBy(l, b, other, now)
		want, _ := impl.JoinMembers(there, too)
		if got, ok := impl.DeliveredBy(l, b, both, now); !slices.Equal(got, want) || !ok {
			t.Fatalf("DeliveredBy(%v, %+v, %v, %d) = %v, %v, not %v", l, b, both, now, got, ok, want)
		}
	}
}

// TestGroupsBehindTheirLength has more behind the lists' length, which is neither read nor written.
func TestGroupsBehindTheirLength(t *testing.T) {
	for _, behind := range []impl.Contact{meets(0, 7, 0, 1000, 0), meets(0, 0, -1, 5000, 200)} {
		for _, more := range []int{7, 0, -77} {
			all := append(someLate(), behind)
			members, others := []int{1, 3, 7, more, more}, []int{2, 4, more}
			b := groupBundle(0, 0, 200, 3)
			wantReaches(t, all[:8], b, members[:2], reach(1, 7, 0), reach(3, 121, 0, 2, 5))
			wantReaches(t, all[:8], b, members[:0])
			wantTreeFor(t, all[:8], b, members[:3], 0, 2, 5)
			wantDelivered(t, all[:8], b, members[:3], 121, 1, 3)
			wantReaches(t, all[:0], b, members[:3])
			wantJoin(t, members[:2], others[:2], 1, 2, 3, 4)
			wantJoin(t, members[:0], others[:1], 2)
			wantNoFollow(t, "behind the plan's length", all[:8], b, 7)
			wantFollow(t, all[:8], b, 3, 121, 0, 2, 5)
			wantForward(t, all[:8], b, 0, 0, 3, 0, 7)
			if !slices.Equal(all, append(someLate(), behind)) || !slices.Equal(members, []int{1, 3, 7, more, more}) || !slices.Equal(others, []int{2, 4, more}) {
				t.Errorf("written behind: %v, %v, %v", all, members, others)
			}
		}
	}
}

// ruinReaches writes into all that the lists have room for.
func ruinReaches(reaches []impl.Reach) {
	for i := range reaches[:cap(reaches)] {
		r := &reaches[:cap(reaches)][i]
		ruin(r.Over)
		*r = reach(-7, -7, -7)
	}
}

func ruin(l []int) {
	for i := range l[:cap(l)] {
		l[:cap(l)][i] = -7
	}
}

// TestGroupsNewMemory asks again behind an answer that was written over, and looks at the arguments.
func TestGroupsNewMemory(t *testing.T) {
	l, b, members, others := someLate(), groupBundle(0, 0, 200, 3), []int{0, 1, 2, 3, 7}, []int{2, 5}
	want := []impl.Reach{reach(0, 0), reach(1, 7, 0), reach(2, 21, 0, 2), reach(3, 121, 0, 2, 5)}
	for range 3 {
		first, _ := impl.ReachAll(l, b, members)
		second, _ := impl.ReachAll(l, b, members)
		ruinReaches(first)
		if !sameReaches(second, want) {
			t.Errorf("%+v", second)
		}
		lists := map[string]func() []int{
			"TreeFor":             func() []int { tree, _ := impl.TreeFor(l, b, members); return tree },
			"DeliveredBy":         func() []int { there, _ := impl.DeliveredBy(l, b, members, 121); return there },
			"JoinMembers":         func() []int { both, _ := impl.JoinMembers(members, others); return both },
			"JoinMembers, one":    func() []int { both, _ := impl.JoinMembers(members, nil); return both },
			"JoinMembers, other":  func() []int { both, _ := impl.JoinMembers(nil, members); return both },
			"JoinMembers, itself": func() []int { both, _ := impl.JoinMembers(members, members); return both },
			"FollowPlan":          func() []int { over, _, _ := impl.FollowPlan(l, b, 3); return over },
		}
		for what, again := range lists {
			was, second := slices.Clone(again()), again()
			ruin(again())
			if !slices.Equal(second, was) || !slices.Equal(again(), was) {
				t.Errorf("%s: %v, once %v", what, second, was)
			}
		}
		if !slices.Equal(l, someLate()) || b != groupBundle(0, 0, 200, 3) || !slices.Equal(members, []int{0, 1, 2, 3, 7}) || !slices.Equal(others, []int{2, 5}) {
			t.Fatalf("%v, %+v, %v, %v", l, b, members, others)
		}
	}
}

// TestReachesOfTheirOwn writes into each list, also behind its length, and looks at the others: those behind the length of the answer, too.
func TestReachesOfTheirOwn(t *testing.T) {
	for _, b := range []impl.Bundle{
		groupBundle(0, 0, 1000, 30), groupBundle(0, 0, 1000, 2), groupBundle(0, 0, 50, 30), groupBundle(7, 0, 1000, 1), groupBundle(4, 0, 3, 2),
	} {
		l := append(rowPlan(7), meets(7, 3, 10, 20, 0), meets(7, 6, 0, 9, 0), meets(4, 1, 0, 1000, 3))
		reaches, _ := impl.ReachAll(l, b, everybody())
		room := reaches[:cap(reaches)]
		for i := range room {
			var was []impl.Reach
			for _, r := range room {
				was = append(was, reach(r.Member, r.When, slices.Clone(r.Over)...))
			}
			ruin(room[i].Over)
			_ = append(room[i].Over, 9, 9, 9)
			for k, r := range room {
				if k != i && !sameReach(r, was[k]) {
					t.Errorf("%+v: %+v and %+v share their contacts", b, room[i], r)
				}
			}
			room[i].Over = was[i].Over
		}
		for _, r := range room[len(reaches):] {
			if !sameReach(r, impl.Reach{}) {
				t.Errorf("%+v: %+v is handed out behind the length", b, r)
			}
		}
	}
}
