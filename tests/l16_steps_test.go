package tests

import (
	"math"
	"math/rand"
	"slices"
	"testing"

	"loop.example/g00315/impl"
)

func sendsId(id int) impl.CusStep { return impl.CusStep{Kind: impl.CusSend, Id: id} }

func givesHold(node int, k int) impl.CusStep {
	return impl.CusStep{Kind: impl.CusGive, Node: node, K: k}
}

func takesSlip(k int) impl.CusStep { return impl.CusStep{Kind: impl.CusTake, K: k} }

func losesSlip(k int) impl.CusStep { return impl.CusStep{Kind: impl.CusLose, K: k} }

func doublesSlip(k int) impl.CusStep { return impl.CusStep{Kind: impl.CusTwice, K: k} }

// plainTakeOn writes anew what the node has Seen and what it holds, id by id and child by child.
func plainTakeOn(c impl.Custody, node int, id int) {
	k := c.Keepers[node]
	next := impl.Keeper{Told: append(k.Told, id)}
	for i := range 6 {
		if i == id || plainHas(k.Seen, i) {
			next.Seen = append(next.Seen, i)
		}
		for child, up := range c.Up {
			if i == id && up == node || plainHolds(k, i, child) {
				next.Holds = append(next.Holds, impl.Hold{Id: i, Child: child})
			}
		}
	}
	c.Keepers[node] = next
}

// plainSlipTaken is what a good custody is once its slip with the number k was taken.
func plainSlipTaken(c impl.Custody, k int) impl.Custody {
	s := c.Slips[k]
	c.Slips = append(append([]impl.Slip{}, c.Slips[:k]...), c.Slips[k+1:]...)
	if s.Kind == 1 {
		if !plainHas(c.Keepers[s.To].Told, s.Id) {
			plainTakeOn(c, s.To, s.Id)
		}
		c.Slips = append(c.Slips, ackOf(s.To, s.From, s.Id))
		return c
	}
	var left []impl.Hold
	for _, h := range c.Keepers[s.To].Holds {
		if h.Id != s.Id || h.Child != s.From {
			left = append(left, h)
		}
	}
	c.Keepers[s.To].Holds = left
	return c
}

// plainCustodyStep is what the document tells of a step.
func plainCustodyStep(c impl.Custody, s impl.CusStep) (impl.Custody, bool) {
	if !plainGoodCustody(c) {
		return impl.Custody{}, false
	}
	c = copyCustody(c)
	slip := s.K >= 0 && s.K < len(c.Slips)
	room := len(c.Slips) < 30
	switch {
	case s.Kind == 1 && s.Id >= 0 && s.Id <= 5 && !plainHas(c.Sent, s.Id):
		plainTakeOn(c, 0, s.Id)
		c.Sent = append(c.Sent, s.Id)
	case s.Kind == 2 && room && s.Node >= 0 && s.Node < len(c.Up) && s.K >= 0 && s.K < len(c.Keepers[s.Node].Holds):
		h := c.Keepers[s.Node].Holds[s.K]
		c.Slips = append(c.Slips, giveOf(s.Node, h.Child, h.Id))
	case s.Kind == 3 && slip:
		c = plainSlipTaken(c, s.K)
	case s.Kind == 4 && slip:
		c.Slips = slices.Delete(c.Slips, s.K, s.K+1)
	case s.Kind == 5 && slip && room:
		c.Slips = append(c.Slips, c.Slips[s.K])
	default:
		return impl.Custody{}, false
	}
	return c, true
}

// plainCalmCustody gives and takes by hand.
func plainCalmCustody(c impl.Custody) (impl.Custody, int, bool) {
	if !plainGoodCustody(c) {
		return impl.Custody{}, 0, false
	}
	c = copyCustody(c)
	for gave := 0; ; gave++ {
		for len(c.Slips) > 0 {
			c = plainSlipTaken(c, 0)
		}
		first := -1
		for node := len(c.Keepers) - 1; node >= 0; node-- {
			if len(c.Keepers[node].Holds) > 0 {
				first = node
			}
		}
		if first < 0 {
			return c, gave, true
		}
		if gave == 200 {
			return impl.Custody{}, 0, false
		}
		h := c.Keepers[first].Holds[0]
		c.Slips = append(c.Slips, giveOf(first, h.Child, h.Id))
	}
}

func checkCustodyStep(t *testing.T, c impl.Custody, s impl.CusStep) (impl.Custody, bool) {
	t.Helper()
	was := copyCustody(c)
	want, can := plainCustodyStep(c, s)
	after, ok := impl.StepCustody(c, s)
	if !sameCustody(after, want) || ok != can {
		t.Fatalf("StepCustody(%+v, %+v) = %+v, %v, not %+v, %v", c, s, after, ok, want, can)
	}
	if !sameCustody(c, was) {
		t.Fatalf("written into: %+v, once %+v", c, was)
	}
	return after, ok
}

// wantKept asks for promise 16: what was taken on is told at each node once, or held above for who is next; once nothing is lost each has all.
func wantKept(t *testing.T, c impl.Custody) {
	t.Helper()
	if !impl.GoodCustody(c) {
		t.Fatalf("%+v is not good", c)
	}
	for node := range c.Up {
		for id := range 6 {
			if safe, ok := impl.SafeFor(c, node, id); safe != plainHas(c.Sent, id) || !ok {
				t.Fatalf("SafeFor(%+v, %d, %d) = %v, %v", c, node, id, safe, ok)
			}
			if often, _ := plainIds(c.Keepers[node].Told); often[id] > 1 {
				t.Fatalf("told %d times: id %d at node %d: %+v", often[id], id, node, c)
			}
		}
	}
	calm, gave, ok := impl.CalmCustody(c)
	if !ok || gave != plainLeft(c) || len(calm.Slips) != 0 || !slices.Equal(calm.Sent, c.Sent) || !slices.Equal(calm.Up, c.Up) || len(calm.Keepers) != len(c.Keepers) {
		t.Fatalf("CalmCustody(%+v) = %+v, %d, %v, where %d are left", c, calm, gave, ok, plainLeft(c))
	}
	for node, k := range calm.Keepers {
		told := c.Keepers[node].Told
		if !plainSameIds(k.Told, c.Sent) || len(k.Holds) != 0 || !slices.Equal(k.Told[:len(told)], told) {
			t.Fatalf("CalmCustody(%+v) = %+v: node %d", c, calm, node)
		}
	}
}

// plainLeft counts who will be given something: whom it is held for once all slips are taken, and all those below a node that has not Seen it then.
func plainLeft(c impl.Custody) int {
	c = copyCustody(c)
	for len(c.Slips) > 0 {
		c = plainSlipTaken(c, 0)
	}
	left := 0
	for node, k := range c.Keepers {
		left += len(k.Holds)
		for _, id := range c.Sent {
			if node > 0 && !plainHas(c.Keepers[c.Up[node]].Seen, id) {
				left++
			}
		}
	}
	return left
}

func wantCustodyStep(t *testing.T, c impl.Custody, s impl.CusStep) impl.Custody {
	t.Helper()
	after, ok := checkCustodyStep(t, c, s)
	if !ok {
		t.Fatalf("not done: StepCustody(%+v, %+v)", c, s)
	}
	wantKept(t, after)
	return after
}

func wantNoCustodyStep(t *testing.T, what string, c impl.Custody, s impl.CusStep) {
	t.Helper()
	if after, ok := checkCustodyStep(t, c, s); ok || !isNoCustody(after) {
		t.Errorf("%s: StepCustody(%+v, %+v) = %+v, %v", what, c, s, after, ok)
	}
}

// checkPlayCustody holds a play against its steps one by one; behind each one all is kept.
func checkPlayCustody(t *testing.T, up []int, l []impl.CusStep) (impl.Custody, []bool) {
	t.Helper()
	was, tree := slices.Clone(l), slices.Clone(up)
	want, ok := impl.NewCustody(up)
	did := make([]bool, len(l))
	wantKept(t, want)
	for i, s := range l {
		after, done := checkCustodyStep(t, want, s)
		did[i] = done
		if done {
			want = after
			wantKept(t, want)
		}
	}
	c, done, also := impl.PlayCustody(up, l)
	if !ok || !also || !slices.Equal(done, did) || !sameCustody(c, want) {
		t.Fatalf("PlayCustody(%v, %+v) = %+v, %v, %v, not %+v, %v", up, l, c, done, also, want, did)
	}
	if !slices.Equal(l, was) || !slices.Equal(up, tree) {
		t.Fatalf("written into: %v, %+v, once %v, %+v", up, l, tree, was)
	}
	return c, did
}

// played is what steps that are all done come to.
func played(t *testing.T, up []int, l ...impl.CusStep) impl.Custody {
	t.Helper()
	c, did := checkPlayCustody(t, up, l)
	if slices.Contains(did, false) {
		t.Fatalf("not done: %v of %+v", did, l)
	}
	return c
}

// allCustodySteps are steps of each kind, and of none, at numbers that are there or not.
func allCustodySteps() []impl.CusStep {
	var l []impl.CusStep
	for kind := range 7 {
		for _, n := range []int{-1, 0, 1, 2, 3, 5, 6, 29, 30} {
			l = append(l, impl.CusStep{Kind: kind, Node: n % 8, Id: n, K: n}, impl.CusStep{Kind: kind, Node: 0, Id: n, K: n}, impl.CusStep{Kind: kind, Node: n, Id: n})
		}
	}
	return l
}

// anyCustodyStep can mostly be done.
func anyCustodyStep(r *rand.Rand, c impl.Custody) impl.CusStep {
	node := r.Intn(max(len(c.Up), 1) + r.Intn(2))
	k := r.Intn(len(c.Slips) + 1)
	switch r.Intn(10) {
	case 0:
		return sendsId(r.Intn(7) - r.Intn(2))
	case 1, 2, 3:
		return givesHold(node, r.Intn(1+r.Intn(4)))
	case 4, 5, 6:
		return takesSlip(k)
	case 7:
		return losesSlip(k)
	case 8:
		return doublesSlip(k)
	}
	return impl.CusStep{Kind: r.Intn(8) - 1, Node: node, Id: r.Intn(8) - 1, K: k - 1}
}

func wantCustody(t *testing.T, what string, c impl.Custody, want impl.Custody) {
	t.Helper()
	if !sameCustody(c, want) {
		t.Errorf("%s: %+v, not %+v", what, c, want)
	}
}

func TestCustodyKnown(t *testing.T) {
	up := []int{-1, 0, 1, 0}
	want := newCustody(up...)
	c := wantCustodyStep(t, want, sendsId(3))
	want.Sent = []int{3}
	want.Keepers[0] = impl.Keeper{Seen: []int{3}, Told: []int{3}, Holds: []impl.Hold{{Id: 3, Child: 1}, {Id: 3, Child: 3}}}
	wantCustody(t, "sent", c, want)
	c = wantCustodyStep(t, c, sendsId(1))
	want.Sent = []int{3, 1}
	want.Keepers[0] = impl.Keeper{Seen: []int{1, 3}, Told: []int{3, 1}, Holds: []impl.Hold{{Id: 1, Child: 1}, {Id: 1, Child: 3}, {Id: 3, Child: 1}, {Id: 3, Child: 3}}}
	wantCustody(t, "sent ahead", c, want)
	c = wantCustodyStep(t, c, givesHold(0, 2))
	want.Slips = []impl.Slip{giveOf(0, 1, 3)}
	wantCustody(t, "given", c, want)
	c = wantCustodyStep(t, c, givesHold(0, 1))
	want.Slips = []impl.Slip{giveOf(0, 1, 3), giveOf(0, 3, 1)}
	wantCustody(t, "given to another one", c, want)
	c = wantCustodyStep(t, c, takesSlip(0))
	want.Slips = []impl.Slip{giveOf(0, 3, 1), ackOf(1, 0, 3)}
	want.Keepers[1] = impl.Keeper{Seen: []int{3}, Told: []int{3}, Holds: []impl.Hold{{Id: 3, Child: 2}}}
	wantCustody(t, "taken", c, want)
	c = wantCustodyStep(t, c, doublesSlip(0))
	want.Slips = []impl.Slip{giveOf(0, 3, 1), ackOf(1, 0, 3), giveOf(0, 3, 1)}
	wantCustody(t, "doubled", c, want)
	c = wantCustodyStep(t, c, takesSlip(1))
	want.Slips = []impl.Slip{giveOf(0, 3, 1), giveOf(0, 3, 1)}
	want.Keepers[0].Holds = []impl.Hold{{Id: 1, Child: 1}, {Id: 1, Child: 3}, {Id: 3, Child: 3}}
	wantCustody(t, "acked", c, want)
	c = wantCustodyStep(t, c, takesSlip(1))
	want.Slips = []impl.Slip{giveOf(0, 3, 1), ackOf(3, 0, 1)}
	want.Keepers[3] = impl.Keeper{Seen: []int{1}, Told: []int{1}}
	wantCustody(t, "taken by a leaf", c, want)
	c = wantCustodyStep(t, c, takesSlip(0))
	want.Slips = []impl.Slip{ackOf(3, 0, 1), ackOf(3, 0, 1)}
	wantCustody(t, "taken once more", c, want)
	c = wantCustodyStep(t, c, losesSlip(0))
	want.Slips = []impl.Slip{ackOf(3, 0, 1)}
	wantCustody(t, "lost", c, want)
	calm, gave, ok := impl.CalmCustody(c)
	if !ok || gave != 4 {
		t.Error(gave, ok)
	}
	want = impl.Custody{Up: up, Sent: []int{3, 1}, Keepers: []impl.Keeper{
		{Seen: []int{1, 3}, Told: []int{3, 1}}, {Seen: []int{1, 3}, Told: []int{3, 1}}, {Seen: []int{1, 3}, Told: []int{1, 3}}, {Seen: []int{1, 3}, Told: []int{1, 3}},
	}}
	wantCustody(t, "calm", calm, want)
}

// TestCustodySend sends each id by itself, and all in two orders.
func TestCustodySend(t *testing.T) {
	for _, up := range someTrees() {
		children, _ := plainChildren(up, 0)
		for id := range 6 {
			c := wantCustodyStep(t, newCustody(up...), sendsId(id))
			want := newCustody(up...)
			want.Sent, want.Keepers[0].Seen, want.Keepers[0].Told = []int{id}, []int{id}, []int{id}
			for _, child := range children {
				want.Keepers[0].Holds = append(want.Keepers[0].Holds, impl.Hold{Id: id, Child: child})
			}
			wantCustody(t, "sent", c, want)
			wantNoCustodyStep(t, "sent once more", c, sendsId(id))
			wantCustodyStep(t, c, sendsId((id+1)%6))
		}
		for _, order := range [][]int{{0, 1, 2, 3, 4, 5}, {5, 4, 3, 2, 1, 0}, {3, 0, 5, 1, 4, 2}} {
			var l []impl.CusStep
			for _, id := range order {
				l = append(l, sendsId(id))
			}
			c := played(t, up, l...)
			if !slices.Equal(c.Sent, order) || !slices.Equal(c.Keepers[0].Told, order) || len(c.Keepers[0].Holds) != 6*len(children) {
				t.Errorf("%+v", c)
			}
			for id := -1; id <= 6; id++ {
				wantNoCustodyStep(t, "sent once more", c, sendsId(id))
			}
		}
		for _, id := range []int{-1, 6, 7, -6, math.MinInt, math.MaxInt, 1 << 32, 1 + 1<<32, -1 << 32} {
			wantNoCustodyStep(t, "no id", newCustody(up...), sendsId(id))
			wantNoCustodyStep(t, "no id", played(t, up, sendsId(0)), sendsId(id))
		}
	}
}

// TestCustodyGive gives each hold there is: it stays held.
func TestCustodyGive(t *testing.T) {
	for _, c := range []impl.Custody{someCustody(), played(t, starTree(8), sendsId(5), sendsId(0)), played(t, rowTree(8), sendsId(0), sendsId(5))} {
		for node, k := range c.Keepers {
			for i, h := range k.Holds {
				after := wantCustodyStep(t, c, givesHold(node, i))
				want := copyCustody(c)
				want.Slips = append(want.Slips, giveOf(node, h.Child, h.Id))
				wantCustody(t, "given", after, want)
				again := wantCustodyStep(t, after, givesHold(node, i))
				want.Slips = append(want.Slips, giveOf(node, h.Child, h.Id))
				wantCustody(t, "given twice", again, want)
			}
			for _, wrong := range []int{-1, len(k.Holds), len(k.Holds) + 1, 30, math.MinInt, math.MaxInt, 1 << 32, -1 << 32} {
				wantNoCustodyStep(t, "no hold", c, givesHold(node, wrong))
			}
		}
		for _, wrong := range append(wrongNodes(), len(c.Up)) {
			for _, k := range []int{0, 1, -1, wrong} {
				wantNoCustodyStep(t, "no node", c, givesHold(wrong, k))
			}
		}
	}
}

// TestCustodySlips takes, loses and doubles each slip, also the first and the last one.
func TestCustodySlips(t *testing.T) {
	c := someCustody()
	for k, s := range c.Slips {
		rest := slices.Delete(slices.Clone(c.Slips), k, k+1)
		want := copyCustody(c)
		want.Slips = rest
		wantCustody(t, "lost", wantCustodyStep(t, c, losesSlip(k)), want)
		want.Slips = append(slices.Clone(c.Slips), s)
		wantCustody(t, "doubled", wantCustodyStep(t, c, doublesSlip(k)), want)
		want.Slips = rest
		if s.Kind == impl.SlipGive {
			want.Slips = append(slices.Clone(rest), ackOf(s.To, s.From, s.Id))
		}
		switch k {
		case 0:
			want.Keepers[2] = impl.Keeper{Seen: []int{0, 4}, Told: []int{4, 0}, Holds: []impl.Hold{{Id: 0, Child: 5}, {Id: 4, Child: 5}}}
		case 2:
			want.Keepers[0].Holds = want.Keepers[0].Holds[:3]
		case 3:
			want.Keepers[2].Holds = nil
		case 6:
			want.Keepers[3] = impl.Keeper{Seen: []int{4}, Told: []int{4}}
		}
		wantCustody(t, "taken", wantCustodyStep(t, c, takesSlip(k)), want)
	}
	for _, wrong := range []int{-1, 8, 9, 29, 30, -8, math.MinInt, math.MaxInt, 1 << 32, -1 << 32, 1 + 1<<32} {
		wantNoCustodyStep(t, "no slip", c, takesSlip(wrong))
		wantNoCustodyStep(t, "no slip", c, losesSlip(wrong))
		wantNoCustodyStep(t, "no slip", c, doublesSlip(wrong))
	}
	for _, up := range someTrees() {
		for _, k := range []int{-1, 0, 1} {
			wantNoCustodyStep(t, "no slips", newCustody(up...), takesSlip(k))
			wantNoCustodyStep(t, "no slips", newCustody(up...), losesSlip(k))
			wantNoCustodyStep(t, "no slips", newCustody(up...), doublesSlip(k))
		}
	}
}

// TestAckOfWhatWasSeen: an ack goes back each time, and so the giver gets rid of its hold though the first one was lost.
func TestAckOfWhatWasSeen(t *testing.T) {
	for _, up := range [][]int{rowTree(2), rowTree(8), starTree(8), {-1, 0, 0, 1}} {
		c := played(t, up, sendsId(0), givesHold(0, 0), takesSlip(0), losesSlip(0))
		if len(c.Slips) != 0 || !plainHolds(c.Keepers[0], 0, 1) || !slices.Equal(c.Keepers[1].Told, []int{0}) {
			t.Fatalf("%+v", c)
		}
		below := c.Keepers[1]
		c = wantCustodyStep(t, c, givesHold(0, 0))
		c = wantCustodyStep(t, c, takesSlip(0))
		if !slices.Equal(c.Slips, []impl.Slip{ackOf(1, 0, 0)}) || !slices.Equal(c.Keepers[1].Told, below.Told) || !slices.Equal(c.Keepers[1].Holds, below.Holds) {
			t.Fatalf("%+v", c)
		}
		c = wantCustodyStep(t, c, doublesSlip(0))
		c = wantCustodyStep(t, c, takesSlip(0))
		if plainHolds(c.Keepers[0], 0, 1) || len(c.Slips) != 1 {
			t.Fatalf("%+v", c)
		}
		// The second ack finds nothing held, and leaves all the same.
		after := wantCustodyStep(t, c, takesSlip(0))
		c.Slips = nil
		wantCustody(t, "acked twice", after, c)
	}
}

// TestSeenAndNotHeldAnyMore: who handed all on has Seen it still, and does not hold it again.
func TestSeenAndNotHeldAnyMore(t *testing.T) {
	c := played(t, rowTree(3), sendsId(2), givesHold(0, 0), doublesSlip(0), takesSlip(0), givesHold(1, 0), takesSlip(2), takesSlip(2))
	if len(c.Keepers[1].Holds) != 0 || !slices.Equal(c.Slips, []impl.Slip{giveOf(0, 1, 2), ackOf(1, 0, 2)}) {
		t.Fatalf("%+v", c)
	}
	after := wantCustodyStep(t, c, takesSlip(0))
	c.Slips = []impl.Slip{ackOf(1, 0, 2), ackOf(1, 0, 2)}
	wantCustody(t, "given late", after, c)
}

// full is a custody with so many slips, the first of them an ack.
func full(t *testing.T, many int) impl.Custody {
	t.Helper()
	l := []impl.CusStep{sendsId(0), sendsId(5), givesHold(0, 0), takesSlip(0)}
	for range many - 1 {
		l = append(l, givesHold(0, 1))
	}
	return played(t, []int{-1, 0, 0, 1}, l...)
}

func TestRoomForSlips(t *testing.T) {
	for many := 1; many <= 30; many++ {
		c := full(t, many)
		if len(c.Slips) != many || c.Slips[0] != ackOf(1, 0, 0) || many > 1 && c.Slips[many-1] != giveOf(0, 2, 0) {
			t.Fatalf("%d: %+v", many, c)
		}
		for k := range many {
			lost := wantCustodyStep(t, c, losesSlip(k))
			taken := wantCustodyStep(t, c, takesSlip(k))
			left := many
			if k == 0 {
				left--
			} else if taken.Slips[many-1] != ackOf(2, 0, 0) {
				t.Fatalf("%d: %+v", many, taken)
			}
			if len(lost.Slips) != many-1 || len(taken.Slips) != left {
				t.Fatalf("%d: %+v, %+v", many, lost, taken)
			}
		}
		if many < 30 {
			twice := wantCustodyStep(t, c, doublesSlip(0))
			given := wantCustodyStep(t, c, givesHold(1, 0))
			if twice.Slips[many] != ackOf(1, 0, 0) || given.Slips[many] != giveOf(1, 3, 0) || len(twice.Slips) != many+1 || len(given.Slips) != many+1 {
				t.Fatalf("%d: %+v, %+v", many, twice, given)
			}
			continue
		}
		for k := range many {
			wantNoCustodyStep(t, "no room for one twice", c, doublesSlip(k))
		}
		for node, keeper := range c.Keepers {
			for k := range keeper.Holds {
				wantNoCustodyStep(t, "no room for a give", c, givesHold(node, k))
			}
		}
		// A send needs none.
		wantCustodyStep(t, c, sendsId(3))
	}
}

// TestFullOfGives takes one after another: each that leaves makes room for its ack.
func TestFullOfGives(t *testing.T) {
	l := []impl.CusStep{sendsId(4)}
	for k := range 30 {
		l = append(l, givesHold(0, k%7))
	}
	c := played(t, starTree(8), l...)
	for k := range 30 {
		c = wantCustodyStep(t, c, takesSlip(0))
		if len(c.Slips) != 30 || c.Slips[29] != ackOf(1+k%7, 0, 4) {
			t.Fatalf("%d: %+v", k, c)
		}
	}
	for k := range 30 {
		c = wantCustodyStep(t, c, takesSlip(29-k))
	}
	if len(c.Slips) != 0 || len(c.Keepers[0].Holds) != 0 {
		t.Fatalf("%+v", c)
	}
}

func TestCustodyStepsOfNoKind(t *testing.T) {
	for _, c := range []impl.Custody{someCustody(), newCustody(-1), played(t, starTree(8), sendsId(0), givesHold(0, 0))} {
		for _, kind := range []int{0, -1, 6, 7, 100, -5, math.MinInt, math.MaxInt, 1 << 32, 1 + 1<<32, 3 + 1<<32} {
			for _, n := range []int{0, 1, 3} {
				wantNoCustodyStep(t, "no kind", c, impl.CusStep{Kind: kind, Node: n, Id: n, K: n})
			}
		}
	}
}

// TestCustodyStepsOtherFields: what a step of its kind does not name makes nothing else of it.
func TestCustodyStepsOtherFields(t *testing.T) {
	c := someCustody()
	for _, any := range []int{-1, 0, 1, 5, 6, 100, math.MinInt, math.MaxInt} {
		for like, s := range map[impl.CusStep]impl.CusStep{
			sendsId(3):      {Kind: impl.CusSend, Id: 3, Node: any, K: any},
			givesHold(1, 2): {Kind: impl.CusGive, Node: 1, K: 2, Id: any},
			takesSlip(6):    {Kind: impl.CusTake, K: 6, Node: any, Id: any},
			losesSlip(7):    {Kind: impl.CusLose, K: 7, Node: any, Id: any},
			doublesSlip(0):  {Kind: impl.CusTwice, K: 0, Node: any, Id: any},
		} {
			wantCustody(t, "other fields", wantCustodyStep(t, c, s), wantCustodyStep(t, c, like))
		}
	}
}

// TestRootAlone holds nothing, whatever it takes on.
func TestRootAlone(t *testing.T) {
	c := newCustody(-1)
	for id := range 6 {
		c = wantCustodyStep(t, c, sendsId(5-id))
		if len(c.Keepers[0].Holds) != 0 || len(c.Keepers[0].Told) != id+1 {
			t.Fatalf("%+v", c)
		}
		wantNoCustodyStep(t, "nothing held", c, givesHold(0, 0))
		calm, gave, ok := impl.CalmCustody(c)
		if gave != 0 || !ok {
			t.Fatal(gave, ok)
		}
		wantCustody(t, "calm", calm, c)
	}
}

func TestCustodyPlaysAtTheirLimits(t *testing.T) {
	for _, up := range someTrees() {
		c, did := checkPlayCustody(t, up, nil)
		wantCustody(t, "no steps", c, newCustody(up...))
		if len(did) != 0 {
			t.Error(did)
		}
		l := slices.Repeat([]impl.CusStep{sendsId(0), givesHold(0, 0), doublesSlip(0), takesSlip(1), losesSlip(1)}, 40)
		c, did = checkPlayCustody(t, up, l)
		if len(did) != 200 || !slices.Equal(c.Sent, []int{0}) {
			t.Errorf("%+v, %v", c, did)
		}
		for _, many := range []int{201, 202, 1000} {
			long := append(slices.Clone(l), make([]impl.CusStep, many-200)...)
			was := slices.Clone(long)
			if c, did, ok := impl.PlayCustody(up, long); !isNoCustody(c) || len(did) != 0 || ok {
				t.Errorf("%d steps: %+v, %v, %v", many, c, did, ok)
			}
			if !slices.Equal(long, was) {
				t.Errorf("%d steps: written into", many)
			}
		}
	}
}

// TestCustodyPlayGoesOn behind steps that are not done, which change nothing.
func TestCustodyPlayGoesOn(t *testing.T) {
	up := []int{-1, 0, 0, 1}
	right := []impl.CusStep{sendsId(2), givesHold(0, 1), sendsId(0), takesSlip(0), givesHold(0, 0), doublesSlip(0), takesSlip(0), losesSlip(0), givesHold(0, 2), takesSlip(0)}
	want := played(t, up, right...)
	wrong := []impl.CusStep{
		{}, sendsId(2), sendsId(-1), sendsId(6), givesHold(0, 9), givesHold(0, -1), givesHold(4, 0), givesHold(-1, 0), givesHold(3, 0), takesSlip(9), takesSlip(-1),
		losesSlip(9), losesSlip(-1), doublesSlip(9), doublesSlip(-1), {Kind: 6}, {Kind: math.MinInt}, sendsId(math.MaxInt), givesHold(math.MinInt, 0), takesSlip(math.MaxInt),
	}
	var l []impl.CusStep
	for _, s := range right {
		l = append(l, s)
		l = append(l, wrong[:19]...)
	}
	c, did := checkPlayCustody(t, up, l)
	wantCustody(t, "wrong ones between", c, want)
	for i, done := range did {
		if done != (i%20 == 0) {
			t.Errorf("step %d, %+v: %v", i, l[i], done)
		}
	}
	c, did = checkPlayCustody(t, up, wrong[2:])
	wantCustody(t, "wrong ones alone", c, newCustody(up...))
	if slices.Contains(did, true) {
		t.Error(did)
	}
}

// wantCalmGiving names how many gave.
func wantCalmGiving(t *testing.T, c impl.Custody, many int) {
	t.Helper()
	checkCustody(t, c)
	wantKept(t, c)
	calm, gave, ok := impl.CalmCustody(c)
	if gave != many || !ok {
		t.Errorf("CalmCustody(%+v) = %+v, %d, %v, not %d", c, calm, gave, ok, many)
	}
	again, none, ok := impl.CalmCustody(calm)
	if none != 0 || !ok || !sameCustody(again, calm) {
		t.Errorf("CalmCustody(%+v) = %+v, %d, %v", calm, again, none, ok)
	}
}

func TestCalmKnown(t *testing.T) {
	for _, up := range someTrees() {
		var l []impl.CusStep
		wantCalmGiving(t, newCustody(up...), 0)
		for id := range 6 {
			l = append(l, sendsId(id))
			wantCalmGiving(t, played(t, up, l...), (id+1)*(len(up)-1))
		}
	}
	// Slips that are taken spare the giving.
	up := []int{-1, 0, 0, 1}
	wantCalmGiving(t, played(t, up, sendsId(2), givesHold(0, 0)), 2)
	wantCalmGiving(t, played(t, up, sendsId(2), givesHold(0, 0), takesSlip(0)), 2)
	wantCalmGiving(t, played(t, up, sendsId(2), givesHold(0, 0), takesSlip(0), takesSlip(0)), 2)
	// Where an ack was lost, it is given once more.
	wantCalmGiving(t, played(t, up, sendsId(2), givesHold(0, 0), takesSlip(0), losesSlip(0)), 3)
	wantCalmGiving(t, played(t, up, sendsId(2), givesHold(0, 0), losesSlip(0)), 3)
	// One given twice, both taken.
	wantCalmGiving(t, played(t, up, sendsId(2), givesHold(0, 1), doublesSlip(0), givesHold(0, 1)), 2)
	wantCalmGiving(t, full(t, 30), 4)
	wantCalmGiving(t, someCustody(), plainLeft(someCustody()))
}

// TestCalmInOrder: the first one that holds something gives its first hold, and what is told tells so.
func TestCalmInOrder(t *testing.T) {
	c := played(t, []int{-1, 0, 1, 0}, sendsId(5), sendsId(1), givesHold(0, 2), takesSlip(0), takesSlip(0))
	if !slices.Equal(c.Keepers[1].Told, []int{5}) || !plainHolds(c.Keepers[1], 5, 2) {
		t.Fatalf("%+v", c)
	}
	calm, gave, ok := impl.CalmCustody(c)
	if gave != 5 || !ok {
		t.Fatal(gave, ok)
	}
	// The root goes first: 1 is at node 1 ahead of what that one gives.
	for node, want := range [][]int{{5, 1}, {5, 1}, {1, 5}, {1, 5}} {
		if !slices.Equal(calm.Keepers[node].Told, want) {
			t.Errorf("node %d: %+v", node, calm.Keepers[node])
		}
	}
	// All slips are taken, the first one first, ahead of any giving.
	c = played(t, rowTree(3), sendsId(0), sendsId(5), sendsId(3), givesHold(0, 1), givesHold(0, 2))
	calm, gave, ok = impl.CalmCustody(c)
	if !slices.Equal(calm.Keepers[1].Told, []int{3, 5, 0}) || !slices.Equal(calm.Keepers[2].Told, []int{0, 3, 5}) || gave != 4 || !ok {
		t.Errorf("%+v, %d, %v", calm, gave, ok)
	}
}

// everyPlay goes on by each of the steps from each custody that some row of them comes to.
func everyPlay(t *testing.T, c impl.Custody, steps []impl.CusStep, many int) int {
	t.Helper()
	if many == 0 {
		return 1
	}
	ends := 0
	for _, s := range steps {
		after, ok := checkCustodyStep(t, c, s)
		if ok {
			wantKept(t, after)
			ends += everyPlay(t, after, steps, many-1)
		}
	}
	return ends
}

func TestEveryCustodyPlay(t *testing.T) {
	steps := []impl.CusStep{
		sendsId(0), sendsId(5), givesHold(0, 0), givesHold(0, 1), givesHold(1, 0), takesSlip(0), takesSlip(1), losesSlip(0), losesSlip(1), doublesSlip(0), doublesSlip(1),
	}
	for _, up := range [][]int{{-1}, {-1, 0}, {-1, 0, 0}, {-1, 0, 1}, {-1, 0, 0, 1}} {
		if ends := everyPlay(t, newCustody(up...), steps, 6); len(up) > 1 && ends < 500 {
			t.Errorf("%v: %d", up, ends)
		}
	}
}

func TestCustodyPlaysMixed(t *testing.T) {
	r := rand.New(rand.NewSource(1600))
	done, not, fullOnes, lateAcks, again := 0, 0, 0, 0, 0
	for range 500 {
		up := anyTree(r)
		c := newCustody(up...)
		l := []impl.CusStep{}
		for range 1 + r.Intn(200) {
			s := anyCustodyStep(r, c)
			if r.Intn(3) == 0 && len(c.Slips) < 30 {
				s = givesHold(r.Intn(len(up)), 0)
			}
			if after, ok := plainCustodyStep(c, s); ok {
				if s.Kind == impl.CusTake {
					x := c.Slips[s.K]
					if x.Kind == impl.SlipAck && !plainHolds(c.Keepers[x.To], x.Id, x.From) {
						lateAcks++
					}
					if x.Kind == impl.SlipGive && plainHas(c.Keepers[x.To].Seen, x.Id) {
						again++
					}
				}
				c = after
			}
			l = append(l, s)
			if len(c.Slips) == 30 {
				fullOnes++
			}
		}
		end, did := checkPlayCustody(t, up, l)
		wantCustody(t, "mixed", end, c)
		checkCustody(t, end)
		for _, is := range did {
			if is {
				done++
			} else {
				not++
			}
		}
	}
	if done < 10000 || not < 5000 || fullOnes < 100 || lateAcks < 100 || again < 100 {
		t.Error(done, not, fullOnes, lateAcks, again)
	}
}

// ruinCustody writes into all that the lists have room for.
func ruinCustody(c impl.Custody) {
	for _, l := range custodyLists(c) {
		for i := range l[:cap(l)] {
			l[:cap(l)][i] = -77
		}
	}
	for node, k := range c.Keepers[:cap(c.Keepers)] {
		for i := range k.Holds[:cap(k.Holds)] {
			k.Holds[:cap(k.Holds)][i] = impl.Hold{Id: -77, Child: -77}
		}
		c.Keepers[:cap(c.Keepers)][node] = impl.Keeper{Seen: []int{-77}}
	}
	for i := range c.Slips[:cap(c.Slips)] {
		c.Slips[:cap(c.Slips)][i] = impl.Slip{Kind: -77, Id: -77}
	}
}

// custodyLists are those of numbers.
func custodyLists(c impl.Custody) [][]int {
	lists := [][]int{c.Up, c.Sent}
	for _, k := range c.Keepers {
		lists = append(lists, k.Seen, k.Told)
	}
	return lists
}

// custodyAnswers asks all that answer a custody, of one that is good.
func custodyAnswers(c impl.Custody) map[string]func() impl.Custody {
	step := func(s impl.CusStep) func() impl.Custody {
		return func() impl.Custody { after, _ := impl.StepCustody(c, s); return after }
	}
	return map[string]func() impl.Custody{
		"new":        func() impl.Custody { after, _ := impl.NewCustody(c.Up); return after },
		"no steps":   func() impl.Custody { after, _, _ := impl.PlayCustody(c.Up, nil); return after },
		"some steps": func() impl.Custody { after, _, _ := impl.PlayCustody(c.Up, allCustodySteps()); return after },
		"calm":       func() impl.Custody { after, _, _ := impl.CalmCustody(c); return after },
		"sent":       step(sendsId(3)), "given": step(givesHold(0, 2)), "given below": step(givesHold(1, 2)),
		"taken": step(takesSlip(0)), "taken an ack": step(takesSlip(2)), "taken a late ack": step(takesSlip(5)), "taken what was seen": step(takesSlip(1)),
		"lost": step(losesSlip(0)), "lost the last": step(losesSlip(7)), "doubled": step(doublesSlip(7)), "not done": step(takesSlip(8)),
	}
}

// TestCustodiesNewMemory asks again behind an answer that was written over.
func TestCustodiesNewMemory(t *testing.T) {
	for _, c := range []impl.Custody{someCustody(), calmOf(someCustody())} {
		wantGoodCustody(t, "handed in", c)
		was := copyCustody(c)
		for what, ask := range custodyAnswers(c) {
			want := copyCustody(ask())
			first, second := ask(), ask()
			ruinCustody(first)
			if !sameCustody(c, was) || !sameCustody(second, want) || !sameCustody(ask(), want) {
				t.Errorf("%s shares memory with an argument or another answer", what)
			}
			third := ask()
			other := copyCustody(c)
			ruinCustody(c)
			if !sameCustody(third, want) {
				t.Errorf("%s shares memory with an argument", what)
			}
			copy(c.Up, other.Up)
			copy(c.Sent, other.Sent)
			copy(c.Slips, other.Slips)
			copy(c.Keepers, other.Keepers)
		}
	}
	up := []int{-1, 0, 0, 1}
	children, _ := impl.ChildrenOf(up, 0)
	ruinCustody(impl.Custody{Up: children})
	if again, ok := impl.ChildrenOf(up, 0); !slices.Equal(again, []int{1, 2}) || !slices.Equal(up, []int{-1, 0, 0, 1}) || !ok {
		t.Error(again, up, ok)
	}
	l := []impl.CusStep{sendsId(0), sendsId(0)}
	_, did, _ := impl.PlayCustody(up, l)
	did[0], did[1] = false, true
	if _, again, _ := impl.PlayCustody(up, l); !slices.Equal(again, []bool{true, false}) {
		t.Error(again)
	}
}

func calmOf(c impl.Custody) impl.Custody {
	calm, _, _ := plainCalmCustody(c)
	calm.Slips = someCustody().Slips
	return calm
}

// TestCustodyListsOfTheirOwn hands in lists that share memory, and writes into each list of the answer, also behind its length.
func TestCustodyListsOfTheirOwn(t *testing.T) {
	one := append(make([]int, 0, 50), 0, 1, 2)
	holds := append(make([]impl.Hold, 0, 50), impl.Hold{Id: 0, Child: 1}, impl.Hold{Id: 1, Child: 1})
	c := newCustody(-1, 0)
	c.Keepers[0] = impl.Keeper{Seen: one, Told: one, Holds: holds}
	c.Keepers[1] = impl.Keeper{Seen: one, Told: one}
	c.Sent = one
	c.Slips = []impl.Slip{giveOf(0, 1, 2), ackOf(1, 0, 1)}
	wantGoodCustody(t, "one list", c)
	shared := map[string]func() impl.Custody{
		"sent":  func() impl.Custody { after, _ := impl.StepCustody(c, sendsId(3)); return after },
		"taken": func() impl.Custody { after, _ := impl.StepCustody(c, takesSlip(0)); return after },
		"acked": func() impl.Custody { after, _ := impl.StepCustody(c, takesSlip(1)); return after },
		"calm":  func() impl.Custody { after, _, _ := impl.CalmCustody(c); return after },
	}
	for what, ask := range shared {
		wantOwnLists(t, "of one list, "+what, ask())
	}
	for what, ask := range custodyAnswers(someCustody()) {
		wantOwnLists(t, what, ask())
	}
}

func wantOwnLists(t *testing.T, what string, c impl.Custody) {
	t.Helper()
	lists := custodyLists(c)
	for i, l := range lists {
		was := copyCustody(c)
		before := custodyLists(was)
		room := l[:cap(l)]
		kept := slices.Clone(room)
		for k := range room {
			room[k] = -5
		}
		for j := range lists {
			if j != i && !slices.Equal(lists[j], before[j]) {
				t.Errorf("%s: lists %d and %d share memory", what, i, j)
			}
		}
		copy(room, kept)
	}
	for i, k := range c.Keepers {
		was := copyCustody(c)
		room := k.Holds[:cap(k.Holds)]
		for j := range room {
			room[j] = impl.Hold{Id: -5}
		}
		for j, other := range c.Keepers {
			if j != i && !slices.Equal(other.Holds, was.Keepers[j].Holds) {
				t.Errorf("%s: nodes %d and %d share their Holds", what, i, j)
			}
		}
		copy(k.Holds, was.Keepers[i].Holds)
	}
}

// TestCustodiesBehindTheirLength: what lies there is neither read, nor written, nor handed out.
func TestCustodiesBehindTheirLength(t *testing.T) {
	numbers := func(l []int) []int {
		return append(append(make([]int, 0, len(l)+9), l...), 3, 1, 3, -77, 6, 0, 1, 2, 3)[:len(l)]
	}
	c := someCustody()
	c.Up, c.Sent = numbers(c.Up), numbers(c.Sent)
	for node, k := range c.Keepers {
		more := append(append(make([]impl.Hold, 0, 20), k.Holds...), impl.Hold{Id: 5, Child: 3}, impl.Hold{Id: -77, Child: -77})
		c.Keepers[node] = impl.Keeper{Seen: numbers(k.Seen), Told: numbers(k.Told), Holds: more[:len(k.Holds)]}
	}
	c.Keepers = append(append(make([]impl.Keeper, 0, 9), c.Keepers...), impl.Keeper{Seen: []int{-77}}, impl.Keeper{Told: []int{1}})[:6]
	c.Slips = append(append(make([]impl.Slip, 0, 40), c.Slips...), impl.Slip{Kind: -77, Id: -77}, giveOf(0, 1, 0))[:8]
	plain := custodyAnswers(someCustody())
	for what, ask := range custodyAnswers(c) {
		after := ask()
		if !sameCustody(after, plain[what]()) {
			t.Errorf("%s: %+v, not %+v", what, after, plain[what]())
		}
		for _, l := range custodyLists(after) {
			if plainHas(l[:cap(l)], -77) {
				t.Errorf("%s: handed out %v", what, l[:cap(l)])
			}
		}
	}
	checkCustody(t, c)
	for _, l := range custodyLists(c) {
		if !slices.Equal(l[len(l):len(l)+9], []int{3, 1, 3, -77, 6, 0, 1, 2, 3}) {
			t.Errorf("written behind %v: %v", l, l[:cap(l)])
		}
	}
	for _, k := range c.Keepers {
		if h := k.Holds[len(k.Holds) : len(k.Holds)+2]; h[0] != (impl.Hold{Id: 5, Child: 3}) || h[1].Id != -77 {
			t.Errorf("written behind %+v: %+v", k, h)
		}
	}
	if s := c.Slips[8:10]; s[0].Kind != -77 || s[1] != giveOf(0, 1, 0) {
		t.Errorf("written behind the slips: %+v", s)
	}
	if k := c.Keepers[6:8]; !slices.Equal(k[0].Seen, []int{-77}) || !slices.Equal(k[1].Told, []int{1}) {
		t.Errorf("written behind the keepers: %+v", k)
	}
}
