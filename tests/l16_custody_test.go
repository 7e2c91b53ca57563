package tests

import (
	"math"
	"math/rand"
	"slices"
	"testing"

	"loop.example/g00315/impl"
)

func copyCustody(c impl.Custody) impl.Custody {
	keepers := make([]impl.Keeper, len(c.Keepers))
	for node, k := range c.Keepers {
		keepers[node] = impl.Keeper{Seen: append([]int{}, k.Seen...), Holds: append([]impl.Hold{}, k.Holds...), Told: append([]int{}, k.Told...)}
	}
	return impl.Custody{
		Up: append([]int{}, c.Up...), Keepers: keepers, Slips: append([]impl.Slip{}, c.Slips...), Sent: append([]int{}, c.Sent...),
	}
}

func sameCustody(a impl.Custody, b impl.Custody) bool {
	return slices.Equal(a.Up, b.Up) && slices.Equal(a.Slips, b.Slips) && slices.Equal(a.Sent, b.Sent) &&
		slices.EqualFunc(a.Keepers, b.Keepers, func(j, k impl.Keeper) bool {
			return slices.Equal(j.Seen, k.Seen) && slices.Equal(j.Holds, k.Holds) && slices.Equal(j.Told, k.Told)
		})
}

func isNoCustody(c impl.Custody) bool {
	return sameCustody(c, impl.Custody{})
}

// plainUp goes up from each node: it comes to the root, by numbers that get less.
func plainUp(up []int) bool {
	if len(up) < 1 || len(up) > 8 {
		return false
	}
	for node := range up {
		for at := node; at != 0; at = up[at] {
			if up[at] >= at || up[at] < 0 {
				return false
			}
		}
	}
	return up[0] == -1
}

func plainChildren(up []int, node int) ([]int, bool) {
	var children []int
	if !plainUp(up) || node < 0 || node > len(up)-1 {
		return nil, false
	}
	for i, n := range up {
		if n == node {
			children = append(children, i)
		}
	}
	return children, true
}

// plainIds counts how often each id is there, if they are ids.
func plainIds(l []int) ([6]int, bool) {
	var often [6]int
	for _, id := range l {
		if id < 0 || id > 5 {
			return often, false
		}
		often[id]++
	}
	return often, true
}

// plainSameIds asks for the same ids, each once.
func plainSameIds(l []int, m []int) bool {
	often, ok := plainIds(l)
	also, too := plainIds(m)
	for _, many := range often {
		ok = ok && many <= 1
	}
	return ok && too && often == also
}

func plainHas(l []int, id int) bool {
	has := false
	for _, n := range l {
		has = has || n == id
	}
	return has
}

func plainHolds(k impl.Keeper, id int, child int) bool {
	for _, h := range k.Holds {
		if h.Id == id && h.Child == child {
			return true
		}
	}
	return false
}

// plainHoldsOf asks the rules of a node's Holds.
func plainHoldsOf(c impl.Custody, node int) bool {
	last := -1
	for _, h := range c.Keepers[node].Holds {
		if !plainHas(c.Keepers[node].Seen, h.Id) || h.Child < 1 || h.Child >= len(c.Up) || c.Up[h.Child] != node {
			return false
		}
		if h.Id*8+h.Child <= last {
			return false
		}
		last = h.Id*8 + h.Child
	}
	return true
}

func plainSlip(c impl.Custody, s impl.Slip) bool {
	nodes := len(c.Up)
	if s.From < 0 || s.From >= nodes || s.To < 0 || s.To >= nodes || !plainHas(c.Keepers[s.From].Seen, s.Id) {
		return false
	}
	return s.Kind == 1 && c.Up[s.To] == s.From || s.Kind == 2 && c.Up[s.From] == s.To
}

// plainGoodCustody asks for one rule after another.
func plainGoodCustody(c impl.Custody) bool {
	if !plainUp(c.Up) || len(c.Keepers) != len(c.Up) || len(c.Slips) > 30 || !plainSameIds(c.Sent, c.Keepers[0].Seen) {
		return false
	}
	for node, k := range c.Keepers {
		if !slices.IsSorted(k.Seen) || !plainSameIds(k.Told, k.Seen) || !plainHoldsOf(c, node) {
			return false
		}
	}
	for node := 1; node < len(c.Up); node++ {
		above := c.Keepers[c.Up[node]]
		for id := range 6 {
			here, there := plainHas(c.Keepers[node].Seen, id), plainHas(above.Seen, id)
			if here && !there || there && !here && !plainHolds(above, id, node) {
				return false
			}
		}
	}
	for _, s := range c.Slips {
		if !plainSlip(c, s) {
			return false
		}
	}
	return true
}

// plainSafe goes down from the root on the way to the node.
func plainSafe(c impl.Custody, node int, id int) (bool, bool) {
	if !plainGoodCustody(c) || node < 0 || node >= len(c.Up) || id < 0 || id > 5 {
		return false, false
	}
	way := []int{node}
	for way[0] != 0 {
		way = append([]int{c.Up[way[0]]}, way...)
	}
	safe := false
	for i := 1; i < len(way); i++ {
		safe = safe || plainHolds(c.Keepers[way[i-1]], id, way[i])
	}
	return safe || plainHas(c.Keepers[node].Told, id), true
}

// checkCustody asks all functions that have a custody and no step, good or not.
func checkCustody(t *testing.T, c impl.Custody) bool {
	t.Helper()
	was := copyCustody(c)
	good := plainGoodCustody(c)
	if ok := impl.GoodCustody(c); ok != good {
		t.Fatalf("GoodCustody(%+v) = %v", c, ok)
	}
	for node := -1; node <= 8; node++ {
		for id := -1; id <= 6; id++ {
			want, can := plainSafe(c, node, id)
			if safe, ok := impl.SafeFor(c, node, id); safe != want || ok != can {
				t.Fatalf("SafeFor(%+v, %d, %d) = %v, %v, not %v, %v", c, node, id, safe, ok, want, can)
			}
		}
	}
	want, many, can := plainCalmCustody(c)
	if calm, gave, ok := impl.CalmCustody(c); !sameCustody(calm, want) || gave != many || ok != can || ok != good {
		t.Fatalf("CalmCustody(%+v) = %+v, %d, %v, not %+v, %d, %v", c, calm, gave, ok, want, many, can)
	}
	if !sameCustody(c, was) {
		t.Fatalf("written into: %+v, once %+v", c, was)
	}
	return good
}

func wantGoodCustody(t *testing.T, what string, c impl.Custody) {
	t.Helper()
	if !checkCustody(t, c) {
		t.Fatalf("%s: %+v is not good", what, c)
	}
	wantKept(t, c)
	for _, s := range allCustodySteps() {
		checkCustodyStep(t, c, s)
	}
}

// wantBadCustody asks every function of a custody that is not good, at steps that would do and at others.
func wantBadCustody(t *testing.T, what string, c impl.Custody) {
	t.Helper()
	if checkCustody(t, c) || impl.GoodCustody(c) {
		t.Fatalf("%s: %+v is good", what, c)
	}
	if calm, gave, ok := impl.CalmCustody(c); !isNoCustody(calm) || gave != 0 || ok {
		t.Errorf("%s: CalmCustody(%+v) = %+v, %d, %v", what, c, calm, gave, ok)
	}
	if safe, ok := impl.SafeFor(c, 0, 0); safe || ok {
		t.Errorf("%s: SafeFor(%+v, 0, 0) = %v, %v", what, c, safe, ok)
	}
	for _, s := range allCustodySteps() {
		if after, ok := checkCustodyStep(t, c, s); ok || !isNoCustody(after) {
			t.Errorf("%s: done %+v", what, s)
		}
	}
}

func newCustody(up ...int) impl.Custody {
	return impl.Custody{Up: up, Keepers: make([]impl.Keeper, len(up))}
}

func giveOf(from int, to int, id int) impl.Slip {
	return impl.Slip{Kind: impl.SlipGive, From: from, To: to, Id: id}
}

func ackOf(from int, to int, id int) impl.Slip {
	return impl.Slip{Kind: impl.SlipAck, From: from, To: to, Id: id}
}

// someCustody is good, with something of everything: holds whose child has Seen it, gives of what is not held any more, acks of what is held and of what is not.
func someCustody() impl.Custody {
	return impl.Custody{
		Up: []int{-1, 0, 0, 1, 1, 2},
		Keepers: []impl.Keeper{
			{Seen: []int{0, 2, 4}, Told: []int{4, 0, 2}, Holds: []impl.Hold{{Id: 0, Child: 2}, {Id: 2, Child: 1}, {Id: 2, Child: 2}, {Id: 4, Child: 1}}},
			{Seen: []int{0, 4}, Told: []int{0, 4}, Holds: []impl.Hold{{Id: 0, Child: 3}, {Id: 4, Child: 3}, {Id: 4, Child: 4}}},
			{Seen: []int{4}, Told: []int{4}, Holds: []impl.Hold{{Id: 4, Child: 5}}},
			{},
			{Seen: []int{0}, Told: []int{0}},
			{Seen: []int{4}, Told: []int{4}},
		},
		Slips: []impl.Slip{
			giveOf(0, 2, 0), giveOf(0, 1, 4), ackOf(1, 0, 4), ackOf(5, 2, 4), giveOf(0, 1, 4), ackOf(2, 0, 4), giveOf(1, 3, 4), giveOf(0, 1, 0),
		},
		Sent: []int{4, 0, 2},
	}
}

// treesOf tells all trees of so many nodes.
func treesOf(nodes int, tell func(up []int)) {
	if nodes == 1 {
		tell([]int{-1})
		return
	}
	treesOf(nodes-1, func(up []int) {
		for node := range nodes - 1 {
			tell(append(slices.Clone(up), node))
		}
	})
}

func rowTree(nodes int) []int {
	up := make([]int, nodes)
	for node := range up {
		up[node] = node - 1
	}
	return up
}

func starTree(nodes int) []int {
	up := make([]int, nodes)
	up[0] = -1
	return up
}

// someTrees are a row, a star and mixed ones, of one node up to MaxHops.
func someTrees() [][]int {
	trees := [][]int{{-1, 0, 0, 1}, {-1, 0, 0, 1, 1, 2}, {-1, 0, 1, 0, 3, 1, 5, 0}, {-1, 0, 1, 1, 1, 2, 2, 0}}
	for nodes := 1; nodes <= 8; nodes++ {
		trees = append(trees, rowTree(nodes), starTree(nodes))
	}
	return trees
}

func wrongTrees() [][]int {
	trees := [][]int{
		nil, {}, {0}, {1}, {-2}, {7}, {8}, {math.MinInt}, {math.MaxInt},
		{-1, -1}, {-1, 1}, {-1, 2}, {0, 0}, {0, -1}, {1, 0}, {1, -1}, {-1, -2}, {-2, 0}, {-1, math.MinInt}, {-1, math.MaxInt}, {math.MinInt, 0}, {math.MaxInt, 0},
		{-1, 0, 2}, {-1, 0, 3}, {-1, 2, 0}, {-1, 2, 1}, {-1, 0, -1}, {-1, -1, 0}, {-1, -1, 1}, {0, 0, 0}, {1, 2, -1}, {-1, 0, 1 << 32}, {-1, -1 << 32, 0},
		rowTree(9), starTree(9), rowTree(500), starTree(500), make([]int, 8),
	}
	for node := range 8 {
		for _, up := range []int{-2, -1, node, node + 1, 7, 8, math.MinInt, math.MaxInt, 1 << 32, -1 + 1<<32} {
			row, star := rowTree(8), starTree(8)
			row[node], star[node] = up, up
			if up >= node || up < -1 || up == -1 && node > 0 {
				trees = append(trees, row, star)
			}
		}
	}
	return trees
}

func checkChildren(t *testing.T, up []int, node int) {
	t.Helper()
	was := slices.Clone(up)
	want, can := plainChildren(up, node)
	if children, ok := impl.ChildrenOf(up, node); !slices.Equal(children, want) || ok != can {
		t.Fatalf("ChildrenOf(%v, %d) = %v, %v, not %v, %v", up, node, children, ok, want, can)
	}
	if !slices.Equal(up, was) {
		t.Fatalf("written into: %v, once %v", up, was)
	}
}

// checkTreeAlone asks all functions that have a tree, as said or not.
func checkTreeAlone(t *testing.T, up []int) bool {
	t.Helper()
	was := slices.Clone(up)
	can := plainUp(up)
	want, did := impl.Custody{}, []bool(nil)
	if can {
		want, did = newCustody(up...), []bool{false}
	}
	if c, ok := impl.NewCustody(up); !sameCustody(c, want) || ok != can {
		t.Fatalf("NewCustody(%v) = %+v, %v", up, c, ok)
	}
	for _, l := range [][]impl.CusStep{nil, {}} {
		if c, done, ok := impl.PlayCustody(up, l); !sameCustody(c, want) || len(done) != 0 || ok != can {
			t.Fatalf("PlayCustody(%v, none) = %+v, %v, %v", up, c, done, ok)
		}
	}
	if c, done, ok := impl.PlayCustody(up, []impl.CusStep{{}}); !sameCustody(c, want) || !slices.Equal(done, did) || ok != can {
		t.Fatalf("PlayCustody(%v, a step of no kind) = %+v, %v, %v", up, c, done, ok)
	}
	for node := -1; node <= 9; node++ {
		checkChildren(t, up, node)
	}
	if !slices.Equal(up, was) {
		t.Fatalf("written into: %v, once %v", up, was)
	}
	return can
}

func TestCustodyConstants(t *testing.T) {
	if impl.MaxHops != 8 || impl.MaxIds != 6 || impl.MaxSlips != 30 || impl.MaxCustodySteps != 200 {
		t.Error(impl.MaxHops, impl.MaxIds, impl.MaxSlips, impl.MaxCustodySteps)
	}
	if impl.SlipGive != 1 || impl.SlipAck != 2 {
		t.Error(impl.SlipGive, impl.SlipAck)
	}
	if impl.CusSend != 1 || impl.CusGive != 2 || impl.CusTake != 3 || impl.CusLose != 4 || impl.CusTwice != 5 {
		t.Error(impl.CusSend, impl.CusGive, impl.CusTake, impl.CusLose, impl.CusTwice)
	}
}

func TestEveryTree(t *testing.T) {
	many := 0
	for nodes := 1; nodes <= 8; nodes++ {
		treesOf(nodes, func(up []int) {
			many++
			if !checkTreeAlone(t, up) || nodes < 7 && !checkCustody(t, newCustody(up...)) {
				t.Errorf("%v is no tree", up)
			}
		})
	}
	if many != 1+1+2+6+24+120+720+5040 {
		t.Error(many)
	}
}

// TestEveryUp asks all short lists of numbers around the nodes', trees or not.
func TestEveryUp(t *testing.T) {
	trees := 0
	for nodes := range 6 {
		up := make([]int, nodes)
		for n := range int(math.Pow(7, float64(nodes))) {
			for node := range up {
				up[node] = n%7 - 2
				n /= 7
			}
			if checkTreeAlone(t, up) {
				trees++
			}
		}
	}
	if trees != 1+1+2+6+24 {
		t.Error(trees)
	}
}

func TestTreesWrong(t *testing.T) {
	for _, up := range wrongTrees() {
		if checkTreeAlone(t, up) {
			t.Errorf("%v is a tree", up)
		}
		if c, ok := impl.NewCustody(up); !isNoCustody(c) || ok {
			t.Errorf("NewCustody(%v) = %+v, %v", up, c, ok)
		}
		if c, did, ok := impl.PlayCustody(up, []impl.CusStep{sendsId(0)}); !isNoCustody(c) || len(did) != 0 || ok {
			t.Errorf("PlayCustody(%v) = %+v, %v, %v", up, c, did, ok)
		}
		if children, ok := impl.ChildrenOf(up, 0); len(children) != 0 || ok {
			t.Errorf("ChildrenOf(%v, 0) = %v, %v", up, children, ok)
		}
		wantBadCustody(t, "a tree that is none", newCustody(up...))
	}
}

func TestChildrenKnown(t *testing.T) {
	up := []int{-1, 0, 1, 0, 3, 1, 5, 0}
	for node, want := range [][]int{{1, 3, 7}, {2, 5}, {}, {4}, {}, {6}, {}, {}} {
		if children, ok := impl.ChildrenOf(up, node); !slices.Equal(children, want) || !ok {
			t.Errorf("ChildrenOf(%v, %d) = %v, %v, not %v", up, node, children, ok, want)
		}
	}
	if children, ok := impl.ChildrenOf(starTree(8), 0); !slices.Equal(children, []int{1, 2, 3, 4, 5, 6, 7}) || !ok {
		t.Error(children, ok)
	}
	if children, ok := impl.ChildrenOf([]int{-1}, 0); len(children) != 0 || !ok {
		t.Error(children, ok)
	}
	for _, tree := range someTrees() {
		for _, wrong := range append(wrongNodes(), len(tree)) {
			checkChildren(t, tree, wrong)
			if children, ok := impl.ChildrenOf(tree, wrong); len(children) != 0 || ok {
				t.Errorf("ChildrenOf(%v, %d) = %v, %v", tree, wrong, children, ok)
			}
		}
	}
}

func TestGoodCustodies(t *testing.T) {
	for _, up := range someTrees() {
		wantGoodCustody(t, "nothing", newCustody(up...))
	}
	wantGoodCustody(t, "something of everything", someCustody())
	c := someCustody()
	c.Slips = nil
	wantGoodCustody(t, "no slips", c)
	c.Keepers[0].Told, c.Sent = []int{2, 4, 0}, []int{0, 2, 4}
	wantGoodCustody(t, "Told in another order", c)
	c.Keepers[0].Holds = []impl.Hold{{Id: 0, Child: 1}, {Id: 0, Child: 2}, {Id: 2, Child: 1}, {Id: 2, Child: 2}, {Id: 4, Child: 1}, {Id: 4, Child: 2}}
	wantGoodCustody(t, "all is held", c)
	c.Keepers[0].Holds = []impl.Hold{{Id: 0, Child: 2}, {Id: 2, Child: 1}, {Id: 2, Child: 2}}
	wantGoodCustody(t, "nothing is held that need not be", c)
	alone := impl.Custody{Up: []int{-1}, Keepers: []impl.Keeper{{Seen: []int{0, 1, 2, 3, 4, 5}, Told: []int{5, 0, 3, 2, 4, 1}}}, Sent: []int{5, 0, 3, 2, 4, 1}}
	wantGoodCustody(t, "a root alone", alone)
}

// TestGoodAtTheMostSlips has as many as there may be, of each kind.
func TestGoodAtTheMostSlips(t *testing.T) {
	for _, s := range []impl.Slip{giveOf(0, 2, 0), giveOf(0, 1, 4), ackOf(1, 0, 4), ackOf(5, 2, 4), giveOf(1, 3, 4)} {
		for _, many := range []int{1, 2, 28, 29, 30} {
			c := someCustody()
			c.Slips = slices.Repeat([]impl.Slip{s}, many)
			wantGoodCustody(t, "slips", c)
		}
		for _, many := range []int{31, 32, 300} {
			c := someCustody()
			c.Slips = slices.Repeat([]impl.Slip{s}, many)
			wantBadCustody(t, "more than MaxSlips", c)
		}
	}
}

func TestSafeForKnown(t *testing.T) {
	c := someCustody()
	for node := range 6 {
		for id := range 6 {
			sent := id == 0 || id == 2 || id == 4
			if safe, ok := impl.SafeFor(c, node, id); safe != sent || !ok {
				t.Errorf("SafeFor(%d, %d) = %v, %v", node, id, safe, ok)
			}
		}
		for _, id := range []int{-1, 6, 7, -6, math.MinInt, math.MaxInt, 1 << 32, 4 + 1<<32} {
			if safe, ok := impl.SafeFor(c, node, id); safe || ok {
				t.Errorf("SafeFor(%d, %d) = %v, %v", node, id, safe, ok)
			}
		}
	}
	for _, node := range append(wrongNodes(), 6, 7) {
		for _, id := range []int{0, 4, 5, -1, 6, node} {
			if safe, ok := impl.SafeFor(c, node, id); safe || ok {
				t.Errorf("SafeFor(%d, %d) = %v, %v", node, id, safe, ok)
			}
		}
	}
	// Somebody far above holds it, for whom it is next.
	row, _, _ := impl.PlayCustody(rowTree(8), []impl.CusStep{sendsId(5)})
	if safe, ok := impl.SafeFor(row, 7, 5); !safe || !ok {
		t.Error(safe, ok)
	}
	if safe, ok := impl.SafeFor(row, 7, 0); safe || !ok {
		t.Error(safe, ok)
	}
}

// spoilCustody are ways to break one rule of someCustody.
func spoilCustody() map[string]func(*impl.Custody) {
	return map[string]func(*impl.Custody){
		"no Up":                  func(c *impl.Custody) { c.Up = nil },
		"an Up less":             func(c *impl.Custody) { c.Up = c.Up[:5] },
		"an Up more":             func(c *impl.Custody) { c.Up = append(c.Up, 0) },
		"an Up that is itself":   func(c *impl.Custody) { c.Up[3] = 3 },
		"an Up behind":           func(c *impl.Custody) { c.Up[3] = 4 },
		"a second -1":            func(c *impl.Custody) { c.Up[3] = -1 },
		"a first one not -1":     func(c *impl.Custody) { c.Up[0] = 0 },
		"another Up":             func(c *impl.Custody) { c.Up[5] = 1 },
		"no Keepers":             func(c *impl.Custody) { c.Keepers = nil },
		"a keeper less":          func(c *impl.Custody) { c.Keepers = c.Keepers[:5] },
		"a keeper more":          func(c *impl.Custody) { c.Keepers = append(c.Keepers, impl.Keeper{}) },
		"Seen falling":           func(c *impl.Custody) { c.Keepers[1].Seen = []int{4, 0} },
		"the root's falling":     func(c *impl.Custody) { c.Keepers[0].Seen = []int{4, 2, 0} },
		"the root's last wrong":  func(c *impl.Custody) { c.Keepers[0].Seen = []int{0, 4, 2} },
		"Seen twice":             func(c *impl.Custody) { c.Keepers[1].Seen = []int{0, 0, 4} },
		"Seen and Told twice":    func(c *impl.Custody) { c.Keepers[1].Seen, c.Keepers[1].Told = []int{0, 4, 4}, []int{4, 0, 4} },
		"all of the root twice":  func(c *impl.Custody) { r := &c.Keepers[0]; r.Seen = []int{0, 2, 4, 4}; r.Told, c.Sent = r.Seen, r.Seen },
		"Told twice":             func(c *impl.Custody) { c.Keepers[1].Told = []int{0, 4, 0} },
		"Told one twice, one no": func(c *impl.Custody) { c.Keepers[1].Told = []int{0, 0} },
		"Told less":              func(c *impl.Custody) { c.Keepers[1].Told = []int{0} },
		"Told nothing":           func(c *impl.Custody) { c.Keepers[1].Told = nil },
		"Told more":              func(c *impl.Custody) { c.Keepers[1].Told = []int{0, 4, 2} },
		"Told another one":       func(c *impl.Custody) { c.Keepers[1].Told = []int{0, 2} },
		"Told, nothing Seen":     func(c *impl.Custody) { c.Keepers[3].Told = []int{0} },
		"Told what is no id":     func(c *impl.Custody) { c.Keepers[3].Told = []int{6} },
		"the root Told less":     func(c *impl.Custody) { c.Keepers[0].Told = []int{4, 0} },
		"the root Told another":  func(c *impl.Custody) { c.Keepers[0].Told = []int{4, 0, 1} },
		"Seen and Told, no id": func(c *impl.Custody) {
			r := &c.Keepers[0]
			r.Seen, r.Told, c.Sent = append(r.Seen, 6), append(r.Told, 6), append(c.Sent, 6)
			r.Holds = append(r.Holds, impl.Hold{Id: 6, Child: 1}, impl.Hold{Id: 6, Child: 2})
		},
		"Seen and Told, below 0": func(c *impl.Custody) {
			r := &c.Keepers[0]
			r.Seen, r.Told, c.Sent = append([]int{-1}, r.Seen...), append(r.Told, -1), append(c.Sent, -1)
			r.Holds = append([]impl.Hold{{Id: -1, Child: 1}, {Id: -1, Child: 2}}, r.Holds...)
		},
		"Seen below, not above":     func(c *impl.Custody) { c.Keepers[3].Seen, c.Keepers[3].Told = []int{2}, []int{2} },
		"Seen below, nowhere above": func(c *impl.Custody) { c.Keepers[5].Seen, c.Keepers[5].Told = []int{4, 5}, []int{5, 4} },
		"Seen by a child of the root alone": func(c *impl.Custody) {
			k := &c.Keepers[1]
			k.Seen, k.Told, k.Holds = []int{0, 1, 4}, []int{0, 4, 1}, []impl.Hold{{Id: 0, Child: 3}, {Id: 1, Child: 3}, {Id: 1, Child: 4}, {Id: 4, Child: 3}, {Id: 4, Child: 4}}
		},
		"a hold of what is not Seen":   func(c *impl.Custody) { c.Keepers[1].Holds = append(c.Keepers[1].Holds, impl.Hold{Id: 5, Child: 3}) },
		"a hold of what is no id":      func(c *impl.Custody) { c.Keepers[1].Holds = append(c.Keepers[1].Holds, impl.Hold{Id: 6, Child: 3}) },
		"a hold of a leaf":             func(c *impl.Custody) { c.Keepers[5].Holds = []impl.Hold{{Id: 4, Child: 5}} },
		"a hold for its Up":            func(c *impl.Custody) { c.Keepers[5].Holds = []impl.Hold{{Id: 4, Child: 2}} },
		"a hold for the root":          func(c *impl.Custody) { c.Keepers[2].Holds = []impl.Hold{{Id: 4, Child: 0}, {Id: 4, Child: 5}} },
		"a hold for itself":            func(c *impl.Custody) { c.Keepers[2].Holds = []impl.Hold{{Id: 4, Child: 2}, {Id: 4, Child: 5}} },
		"a hold for another's child":   func(c *impl.Custody) { c.Keepers[2].Holds = []impl.Hold{{Id: 4, Child: 4}, {Id: 4, Child: 5}} },
		"a hold for a child's child":   func(c *impl.Custody) { c.Keepers[0].Holds = append(c.Keepers[0].Holds, impl.Hold{Id: 4, Child: 3}) },
		"a hold for no node":           func(c *impl.Custody) { c.Keepers[2].Holds = append(c.Keepers[2].Holds, impl.Hold{Id: 4, Child: 6}) },
		"a hold for one below 0":       func(c *impl.Custody) { c.Keepers[2].Holds = []impl.Hold{{Id: 4, Child: -1}, {Id: 4, Child: 5}} },
		"Holds falling by Id":          func(c *impl.Custody) { h := c.Keepers[1].Holds; h[0], h[1] = h[1], h[0] },
		"Holds falling by Child":       func(c *impl.Custody) { h := c.Keepers[1].Holds; h[1], h[2] = h[2], h[1] },
		"the root's falling by Child":  func(c *impl.Custody) { h := c.Keepers[0].Holds; h[1], h[2] = h[2], h[1] },
		"a hold twice":                 func(c *impl.Custody) { c.Keepers[2].Holds = []impl.Hold{{Id: 4, Child: 5}, {Id: 4, Child: 5}} },
		"the root's first hold twice":  func(c *impl.Custody) { c.Keepers[0].Holds = append(c.Keepers[0].Holds[:1:1], c.Keepers[0].Holds...) },
		"Holds by Child, then Id":      func(c *impl.Custody) { h := c.Keepers[1].Holds; slices.Reverse(h) },
		"the first hold missing":       func(c *impl.Custody) { c.Keepers[0].Holds = c.Keepers[0].Holds[1:] },
		"a hold in the middle missing": func(c *impl.Custody) { c.Keepers[0].Holds = slices.Delete(c.Keepers[0].Holds, 2, 3) },
		"the last hold missing":        func(c *impl.Custody) { c.Keepers[1].Holds = c.Keepers[1].Holds[:2] },
		"all Holds missing":            func(c *impl.Custody) { c.Keepers[1].Holds = nil },
		"no slip":                      func(c *impl.Custody) { c.Slips[3] = impl.Slip{} },
		"a slip of no kind":            func(c *impl.Custody) { c.Slips[3].Kind = 0 },
		"a slip of kind 3":             func(c *impl.Custody) { c.Slips[3].Kind = 3 },
		"a give back":                  func(c *impl.Custody) { c.Slips[3].Kind = impl.SlipGive },
		"an ack on":                    func(c *impl.Custody) { c.Slips[0] = ackOf(0, 2, 4) },
		"a give to itself":             func(c *impl.Custody) { c.Slips[0] = giveOf(2, 2, 4) },
		"an ack to itself":             func(c *impl.Custody) { c.Slips[0] = ackOf(2, 2, 4) },
		"an ack of the root to itself": func(c *impl.Custody) { c.Slips[0] = ackOf(0, 0, 4) },
		"a give past one":              func(c *impl.Custody) { c.Slips[0] = giveOf(0, 5, 4) },
		"an ack past one":              func(c *impl.Custody) { c.Slips[0] = ackOf(5, 0, 4) },
		"a give among children":        func(c *impl.Custody) { c.Slips[0] = giveOf(1, 2, 4) },
		"an ack among children":        func(c *impl.Custody) { c.Slips[0] = ackOf(2, 1, 4) },
		"a give to another's child":    func(c *impl.Custody) { c.Slips[0] = giveOf(2, 3, 4) },
		"an ack to another's Up":       func(c *impl.Custody) { c.Slips[0] = ackOf(4, 2, 0) },
		"a give to -1":                 func(c *impl.Custody) { c.Slips[0] = giveOf(0, -1, 4) },
		"a give of -1":                 func(c *impl.Custody) { c.Slips[0] = giveOf(-1, 0, 4) },
		"the root's ack to -1":         func(c *impl.Custody) { c.Slips[0] = ackOf(0, -1, 4) },
		"an ack of -1":                 func(c *impl.Custody) { c.Slips[0] = ackOf(-1, 0, 4) },
		"a give to no node":            func(c *impl.Custody) { c.Slips[0] = giveOf(0, 6, 4) },
		"an ack of no node":            func(c *impl.Custody) { c.Slips[0] = ackOf(6, 0, 4) },
		"a give of what is nowhere":    func(c *impl.Custody) { c.Slips[7].Id = 5 },
		"a give of what it lacks":      func(c *impl.Custody) { c.Slips[6].Id = 2 },
		"an ack of what it lacks":      func(c *impl.Custody) { c.Slips[2].Id = 2 },
		"a leaf's ack of the like":     func(c *impl.Custody) { c.Slips[3].Id = 0 },
		"an ack of what is not Seen":   func(c *impl.Custody) { c.Slips[0] = ackOf(3, 1, 4) },
		"a slip of no id":              func(c *impl.Custody) { c.Slips[0].Id = 6 },
		"a slip of an id below 0":      func(c *impl.Custody) { c.Slips[0].Id = -1 },
		"the last slip wrong":          func(c *impl.Custody) { c.Slips[7].To = 3 },
		"Sent nothing":                 func(c *impl.Custody) { c.Sent = nil },
		"Sent less":                    func(c *impl.Custody) { c.Sent = []int{4, 0} },
		"Sent more":                    func(c *impl.Custody) { c.Sent = []int{4, 0, 2, 1} },
		"Sent twice":                   func(c *impl.Custody) { c.Sent = []int{4, 0, 2, 4} },
		"Sent one twice, one no":       func(c *impl.Custody) { c.Sent = []int{4, 0, 4} },
		"Sent another one":             func(c *impl.Custody) { c.Sent = []int{4, 0, 3} },
		"Sent what is no id":           func(c *impl.Custody) { c.Sent = []int{4, 0, 6} },
		"Sent what is below 0":         func(c *impl.Custody) { c.Sent = []int{4, 0, 2, -1} },
	}
}

func TestSpoiltCustodies(t *testing.T) {
	for what, spoil := range spoilCustody() {
		c := someCustody()
		spoil(&c)
		wantBadCustody(t, what, c)
	}
	wantBadCustody(t, "nothing", impl.Custody{})
	wantBadCustody(t, "a keeper alone", impl.Custody{Keepers: make([]impl.Keeper, 1)})
	alone := newCustody(-1)
	alone.Slips = []impl.Slip{giveOf(-1, 0, 0)}
	wantBadCustody(t, "a slip for a root alone", alone)
	alone.Slips = []impl.Slip{ackOf(0, -1, 0)}
	wantBadCustody(t, "a slip of a root alone", alone)
	alone.Slips, alone.Sent = nil, []int{0}
	wantBadCustody(t, "Sent, nothing Seen", alone)
	alone.Keepers[0] = impl.Keeper{Seen: []int{0}, Told: []int{0}, Holds: []impl.Hold{{Id: 0, Child: -1}}}
	wantBadCustody(t, "a hold of a root alone", alone)
	alone.Keepers[0].Holds = []impl.Hold{{}}
	wantBadCustody(t, "a hold of a root for itself", alone)
}

// TestCustodyWrongNumbers puts numbers far out in the place of each number.
func TestCustodyWrongNumbers(t *testing.T) {
	for _, wrong := range []int{math.MinInt, math.MinInt + 1, -9, 9, 100, 1 << 32, -1 << 32, 4 + 1<<32, math.MaxInt - 1, math.MaxInt} {
		places := map[string]func(*impl.Custody){
			"Up":             func(c *impl.Custody) { c.Up[5] = wrong },
			"the root's Up":  func(c *impl.Custody) { c.Up[0] = wrong },
			"Seen first":     func(c *impl.Custody) { c.Keepers[0].Seen[0] = wrong },
			"Seen last":      func(c *impl.Custody) { c.Keepers[0].Seen[2] = wrong },
			"Told":           func(c *impl.Custody) { c.Keepers[0].Told[1] = wrong },
			"Seen and Told":  func(c *impl.Custody) { c.Keepers[5].Seen[0], c.Keepers[5].Told[0], c.Slips = wrong, wrong, nil },
			"a hold's Id":    func(c *impl.Custody) { c.Keepers[0].Holds[3].Id = wrong },
			"a hold's Child": func(c *impl.Custody) { c.Keepers[0].Holds[3].Child = wrong },
			"both of a hold": func(c *impl.Custody) { c.Keepers[0].Holds[3] = impl.Hold{Id: wrong, Child: wrong} },
			"Kind":           func(c *impl.Custody) { c.Slips[0].Kind = wrong },
			"From":           func(c *impl.Custody) { c.Slips[0].From = wrong },
			"To":             func(c *impl.Custody) { c.Slips[0].To = wrong },
			"Id":             func(c *impl.Custody) { c.Slips[0].Id = wrong },
			"an ack's From":  func(c *impl.Custody) { c.Slips[2].From = wrong },
			"an ack's To":    func(c *impl.Custody) { c.Slips[2].To = wrong },
			"all of a slip":  func(c *impl.Custody) { c.Slips[2] = impl.Slip{Kind: wrong, From: wrong, To: wrong, Id: wrong} },
			"Sent":           func(c *impl.Custody) { c.Sent[2] = wrong },
		}
		for what, spoil := range places {
			c := someCustody()
			spoil(&c)
			wantBadCustody(t, what, c)
		}
	}
}

// anyCustody is good, whatever comes: one of a play, with slips and holds more that it may have.
func anyCustody(r *rand.Rand) impl.Custody {
	c := newCustody(anyTree(r)...)
	for range r.Intn(40) {
		if after, ok := plainCustodyStep(c, anyCustodyStep(r, c)); ok {
			c = after
		}
	}
	for node, k := range c.Keepers {
		r.Shuffle(len(k.Told), func(i, j int) { k.Told[i], k.Told[j] = k.Told[j], k.Told[i] })
		if node == 0 || len(k.Seen) == 0 || r.Intn(2) == 0 {
			continue
		}
		id := k.Seen[r.Intn(len(k.Seen))]
		above := &c.Keepers[c.Up[node]]
		if !plainHolds(*above, id, node) {
			above.Holds = append(above.Holds, impl.Hold{Id: id, Child: node})
			slices.SortFunc(above.Holds, func(g, h impl.Hold) int { return g.Id*8 + g.Child - h.Id*8 - h.Child })
		}
		if len(c.Slips) < 30 {
			c.Slips = append(c.Slips, ackOf(node, c.Up[node], id))
		}
	}
	return c
}

func anyTree(r *rand.Rand) []int {
	up := []int{-1}
	for node := 1; node < 1+r.Intn(8); node++ {
		up = append(up, r.Intn(node))
	}
	return up
}

// spoilAny changes a number somewhere, or takes one away, or puts one in: what comes of it may be good.
func spoilAny(r *rand.Rand, c *impl.Custody) {
	k := &c.Keepers[r.Intn(len(c.Keepers))]
	lists := []*[]int{&c.Up, &c.Sent, &k.Seen, &k.Told}
	l := lists[r.Intn(4)]
	switch r.Intn(7) {
	case 0:
		if len(*l) > 0 {
			(*l)[r.Intn(len(*l))] = r.Intn(8) - 1
		}
	case 1:
		if len(*l) > 0 {
			*l = slices.Delete(*l, len(*l)-1, len(*l))
		}
	case 2:
		*l = append(*l, r.Intn(8)-1)
	case 3:
		if len(k.Holds) > 0 {
			at := r.Intn(len(k.Holds))
			k.Holds = slices.Delete(k.Holds, at, at+1)
		}
	case 4:
		h := impl.Hold{Id: r.Intn(8) - 1, Child: r.Intn(10) - 1}
		k.Holds = slices.Insert(k.Holds, r.Intn(len(k.Holds)+1), h)
	case 5:
		if len(c.Slips) < 31 {
			c.Slips = append(c.Slips, impl.Slip{Kind: 1 + r.Intn(2), From: r.Intn(len(c.Up)+2) - 1, To: r.Intn(len(c.Up)+2) - 1, Id: r.Intn(7)})
		}
	case 6:
		if len(c.Slips) > 0 {
			s := &c.Slips[r.Intn(len(c.Slips))]
			*s = impl.Slip{Kind: 3 - s.Kind, From: s.To, To: s.From, Id: s.Id}
		}
	}
}

func TestCustodiesMixed(t *testing.T) {
	r := rand.New(rand.NewSource(161))
	good, bad := 0, 0
	for range 6000 {
		c := anyCustody(r)
		if !checkCustody(t, c) {
			t.Fatalf("%+v is not good", c)
		}
		spoilAny(r, &c)
		if checkCustody(t, c) {
			good++
		} else {
			bad++
		}
		checkCustodyStep(t, c, anyCustodyStep(r, c))
	}
	if good < 500 || bad < 2000 {
		t.Error(good, bad)
	}
}
