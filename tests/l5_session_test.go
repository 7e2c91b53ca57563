package tests

import (
	"math"
	"slices"
	"strings"
	"testing"

	"loop.example/g00315/impl"
)

// plainTexts are what the segments of a block carry.
func plainTexts(block string) []string {
	var l []string
	for len(block) > 8 {
		l = append(l, block[:8])
		block = block[8:]
	}
	return append(l, block)
}

// plainCame is the block with bytes 0 wherever nothing came.
func plainCame(block string, got []bool) string {
	var s strings.Builder
	for i, text := range plainTexts(block) {
		if got[i] {
			s.WriteString(text)
		} else {
			s.WriteString(strings.Repeat("\x00", len(text)))
		}
	}
	return s.String()
}

func plainAll(l []bool) bool {
	return !slices.Contains(l, false)
}

// plainUnder asks whether b is true wherever a is, and both are as long.
func plainUnder(a []bool, b []bool) bool {
	for i := range a {
		if i < len(b) && a[i] && !b[i] {
			return false
		}
	}
	return len(a) == len(b)
}

// plainSession asks for the chapter's rules one after another.
func plainSession(s impl.Session) bool {
	if len(s.Block) < 1 || len(s.Block) > 40 || len(s.Way) > 30 || len(s.Back) > 30 {
		return false
	}
	texts := plainTexts(s.Block)
	if len(s.Got) != len(texts) || !plainUnder(s.Acked, s.Got) {
		return false
	}
	if s.Bytes != plainCame(s.Block, s.Got) || s.Done != plainAll(s.Acked) {
		return false
	}
	for _, x := range s.Way {
		if x.Kind != 1 || x.At < 0 || x.At >= len(texts) || x.Text != texts[x.At] || len(x.Got) != 0 {
			return false
		}
	}
	for _, x := range s.Back {
		if x.Kind != 2 || x.At != 0 || x.Text != "" || x.Check || !plainUnder(x.Got, s.Got) {
			return false
		}
	}
	return true
}

func copySegments(l []impl.Segment) []impl.Segment {
	l = slices.Clone(l)
	for i := range l {
		l[i].Got = slices.Clone(l[i].Got)
	}
	return l
}

func copySession(s impl.Session) impl.Session {
	s.Acked, s.Got = slices.Clone(s.Acked), slices.Clone(s.Got)
	s.Way, s.Back = copySegments(s.Way), copySegments(s.Back)
	return s
}

func sameSegments(l []impl.Segment, m []impl.Segment) bool {
	return slices.EqualFunc(l, m, func(x, y impl.Segment) bool {
		return x.Kind == y.Kind && x.At == y.At && x.Text == y.Text && x.Check == y.Check && slices.Equal(x.Got, y.Got)
	})
}

func sameSession(a impl.Session, b impl.Session) bool {
	return a.Block == b.Block && slices.Equal(a.Acked, b.Acked) && slices.Equal(a.Got, b.Got) && a.Bytes == b.Bytes &&
		a.Done == b.Done && sameSegments(a.Way, b.Way) && sameSegments(a.Back, b.Back)
}

// newSession is one where nothing was sent.
func newSession(block string) impl.Session {
	many := len(plainTexts(block))
	return impl.Session{Block: block, Acked: make([]bool, many), Got: make([]bool, many), Bytes: strings.Repeat("\x00", len(block))}
}

// sessionWhere is one with empty links where just these came, and just these are known.
func sessionWhere(block string, got []bool, acked []bool) impl.Session {
	return impl.Session{
		Block: block, Acked: slices.Clone(acked), Got: slices.Clone(got), Bytes: plainCame(block, got), Done: plainAll(acked),
	}
}

func dataOf(block string, at int, check bool) impl.Segment {
	return impl.Segment{Kind: impl.SegData, At: at, Text: plainTexts(block)[at], Check: check}
}

func reportOf(got ...bool) impl.Segment {
	return impl.Segment{Kind: impl.SegReport, Got: got}
}

// onTheWay is a good session with something of everything: a segment known, one that came, one that did not.
func onTheWay() impl.Session {
	s := sessionWhere("a block of many bytes", []bool{true, true, false}, []bool{true, false, false})
	s.Way = []impl.Segment{dataOf(s.Block, 2, true), dataOf(s.Block, 0, false)}
	s.Back = []impl.Segment{reportOf(true, true, false), reportOf(false, true, false)}
	return s
}

// finished is a good session that is Done while something is still on its links.
func finished() impl.Session {
	s := sessionWhere("a block of many bytes", []bool{true, true, true}, []bool{true, true, true})
	s.Way = []impl.Segment{dataOf(s.Block, 1, true), dataOf(s.Block, 2, true)}
	s.Back = []impl.Segment{reportOf(true, false, true)}
	return s
}

// checkSession asks all functions that have a session alone for what the document tells of it, good or not.
func checkSession(t *testing.T, s impl.Session) bool {
	t.Helper()
	was := copySession(s)
	good := plainSession(s)
	if ok := impl.GoodSession(s); ok != good {
		t.Fatalf("GoodSession(%#v) = %v", s, ok)
	}
	var left []int
	whole, all := "", false
	calm, many, still := impl.Session{}, 0, false
	if good {
		for i, known := range s.Acked {
			if !known {
				left = append(left, i)
			}
		}
		if plainAll(s.Got) {
			whole, all = s.Block, true
		}
		calm, many, still = plainCalm(s)
	}
	if l, ok := impl.SegmentsLeft(s); !slices.Equal(l, left) || ok != good {
		t.Fatalf("SegmentsLeft(%#v) = %v, %v, not %v", s, l, ok, left)
	}
	if r, ok := impl.Received(s); r != whole || ok != all {
		t.Fatalf("Received(%#v) = %q, %v, not %q", s, r, ok, whole)
	}
	if c, n, ok := impl.CalmSession(s); !sameSession(c, calm) || n != many || ok != still {
		t.Fatalf("CalmSession(%#v) = %#v, %d, %v, not %#v, %d, %v", s, c, n, ok, calm, many, still)
	}
	if !sameSession(s, was) {
		t.Fatalf("written into: %#v, once %#v", s, was)
	}
	return good
}

// allSteps are steps of each kind, known or not, on both links, at each number that a link can have, and beside.
func allSteps() []impl.SesStep {
	var l []impl.SesStep
	for _, kind := range []int{math.MinInt, -1, 0, 1, 2, 3, 4, 5, 256 + 1, math.MaxInt} {
		for _, back := range []bool{false, true} {
			for _, k := range []int{math.MinInt, -1, 0, 1, 2, 28, 29, 30, 31, math.MaxInt} {
				l = append(l, impl.SesStep{Kind: kind, Back: back, K: k})
			}
		}
	}
	return l
}

func wantBadSession(t *testing.T, what string, s impl.Session) {
	t.Helper()
	if checkSession(t, s) {
		t.Errorf("%s: %#v is good", what, s)
	}
	for _, x := range allSteps() {
		if checkStep(t, s, x) {
			t.Errorf("%s: done %#v", what, x)
		}
	}
}

func wantGoodSession(t *testing.T, what string, s impl.Session) {
	t.Helper()
	if !checkSession(t, s) {
		t.Errorf("%s: %#v isn't good", what, s)
	}
	for _, x := range allSteps() {
		checkStep(t, s, x)
	}
}

func TestNewSession(t *testing.T) {
	s, ok := impl.NewSession("ninebytes")
	want := impl.Session{
		Block: "ninebytes", Acked: []bool{false, false}, Got: []bool{false, false}, Bytes: "\x00\x00\x00\x00\x00\x00\x00\x00\x00",
	}
	if !ok || !sameSession(s, want) {
		t.Errorf("%#v, %v", s, ok)
	}
	for many := 1; many <= impl.MaxBlock; many++ {
		block := mixedBytes(many)
		s, ok := impl.NewSession(block)
		if !ok || !sameSession(s, newSession(block)) {
			t.Errorf("%d bytes: %#v, %v", many, s, ok)
		}
		if want := []int{1, 2, 3, 4, 5}[(many-1)/8]; len(s.Got) != want || len(s.Acked) != want {
			t.Errorf("%d bytes: %#v", many, s)
		}
		wantGoodSession(t, "a new one", s)
	}
}

func TestNewSessionWrong(t *testing.T) {
	for _, block := range []string{"", mixedBytes(impl.MaxBlock + 1), mixedBytes(impl.MaxBlock + impl.MaxSegment), mixedBytes(5000)} {
		if s, ok := impl.NewSession(block); ok || !sameSession(s, impl.Session{}) {
			t.Errorf("%d bytes: %#v, %v", len(block), s, ok)
		}
		if s, did, ok := impl.PlaySession(block, []impl.SesStep{{Kind: impl.SesSend}}); ok || len(did) != 0 || !sameSession(s, impl.Session{}) {
			t.Errorf("%d bytes: %#v, %v, %v", len(block), s, did, ok)
		}
	}
	wantBadSession(t, "nothing", impl.Session{})
	wantBadSession(t, "an empty block that is Done", impl.Session{Done: true})
	s := newSession(mixedBytes(impl.MaxBlock + 1))
	wantBadSession(t, "a block too long by a byte", s)
	s.Acked, s.Got = s.Acked[:5], s.Got[:5]
	wantBadSession(t, "a block too long by a byte", s)
}

func TestGoodSessions(t *testing.T) {
	wantGoodSession(t, "on its way", onTheWay())
	wantGoodSession(t, "finished", finished())
	block := mixedBytes(impl.MaxBlock)
	for bits := range 32 * 32 {
		got, acked := make([]bool, 5), make([]bool, 5)
		for i := range got {
			got[i], acked[i] = bits>>i&1 == 1, bits>>(i+5)&1 == 1
		}
		s := sessionWhere(block, got, acked)
		if checkSession(t, s) != plainUnder(acked, got) {
			t.Errorf("got %v, acked %v", got, acked)
		}
		s.Done = !s.Done
		if checkSession(t, s) {
			t.Errorf("got %v, acked %v: Done %v", got, acked, s.Done)
		}
		s = sessionWhere(block, got, make([]bool, 5))
		s.Back = []impl.Segment{reportOf(acked...)}
		if checkSession(t, s) != plainUnder(acked, got) {
			t.Errorf("got %v, told %v", got, acked)
		}
	}
}

func TestSessionZeroBytes(t *testing.T) {
	block := strings.Repeat("\x00", 17)
	for _, got := range [][]bool{{false, false, false}, {false, true, false}, {true, true, true}} {
		s := sessionWhere(block, got, []bool{false, false, false})
		wantGoodSession(t, "bytes 0", s)
	}
}

func TestSessionListsOfNone(t *testing.T) {
	s := onTheWay()
	s.Way[0].Got = []bool{}
	wantGoodSession(t, "an empty Got", s)
	s.Way, s.Back = []impl.Segment{}, []impl.Segment{}
	wantGoodSession(t, "empty links", s)
}

// spoilt are sessions each of which breaks one rule.
func spoilt() map[string]func(*impl.Session) {
	return map[string]func(*impl.Session){
		"no block":              func(s *impl.Session) { s.Block = "" },
		"a block cut":           func(s *impl.Session) { s.Block = s.Block[:20] },
		"a block cut whole":     func(s *impl.Session) { s.Block = s.Block[:16] },
		"a longer block":        func(s *impl.Session) { s.Block += "!" },
		"another block":         func(s *impl.Session) { s.Block = strings.ToUpper(s.Block) },
		"no Acked":              func(s *impl.Session) { s.Acked = nil },
		"one Acked less":        func(s *impl.Session) { s.Acked = s.Acked[:2] },
		"one Acked more":        func(s *impl.Session) { s.Acked = append(s.Acked, false) },
		"one true Acked more":   func(s *impl.Session) { s.Acked = append(s.Acked, true) },
		"no Got":                func(s *impl.Session) { s.Got = nil },
		"one Got less":          func(s *impl.Session) { s.Got = s.Got[:2] },
		"one Got more":          func(s *impl.Session) { s.Got = append(s.Got, false) },
		"one more of both":      func(s *impl.Session) { s.Got, s.Acked = append(s.Got, true), append(s.Acked, true) },
		"Got without bytes":     func(s *impl.Session) { s.Got[2] = true },
		"bytes without Got":     func(s *impl.Session) { s.Got[1] = false; s.Back = nil },
		"Acked, not got":        func(s *impl.Session) { s.Acked[2] = true },
		"all Acked, not got":    func(s *impl.Session) { s.Acked = []bool{true, true, true}; s.Done = true },
		"Done too early":        func(s *impl.Session) { s.Done = true },
		"no Bytes":              func(s *impl.Session) { s.Bytes = "" },
		"Bytes cut":             func(s *impl.Session) { s.Bytes = s.Bytes[:20] },
		"a byte 0 more":         func(s *impl.Session) { s.Bytes += "\x00" },
		"a got byte wrong":      func(s *impl.Session) { s.Bytes = "b" + s.Bytes[1:] },
		"a got byte 0":          func(s *impl.Session) { s.Bytes = s.Bytes[:15] + "\x00" + s.Bytes[16:] },
		"another byte than 0":   func(s *impl.Session) { s.Bytes = s.Bytes[:20] + "s" },
		"all Bytes though":      func(s *impl.Session) { s.Bytes = s.Block },
		"a report on the Way":   func(s *impl.Session) { s.Way[1] = reportOf(true, true, false) },
		"data on the way Back":  func(s *impl.Session) { s.Back[1] = dataOf(s.Block, 0, true) },
		"a Way without kind":    func(s *impl.Session) { s.Way[1].Kind = 0 },
		"a Way of kind 2":       func(s *impl.Session) { s.Way[1].Kind = 2 },
		"a Way of kind 3":       func(s *impl.Session) { s.Way[1].Kind = 3 },
		"a Way of kind -1":      func(s *impl.Session) { s.Way[1].Kind = -1 },
		"nothing on the Way":    func(s *impl.Session) { s.Way[1] = impl.Segment{} },
		"At below 0":            func(s *impl.Session) { s.Way[1].At = -1 },
		"At behind the last":    func(s *impl.Session) { s.Way[1].At = 3 },
		"At least of all":       func(s *impl.Session) { s.Way[1].At = math.MinInt },
		"At most of all":        func(s *impl.Session) { s.Way[1].At = math.MaxInt },
		"At that wraps round":   func(s *impl.Session) { s.Way[1].At = 1 << 61 },
		"At of another":         func(s *impl.Session) { s.Way[1].At = 1 },
		"another Text":          func(s *impl.Session) { s.Way[1].Text = "b" + s.Way[1].Text[1:] },
		"no Text":               func(s *impl.Session) { s.Way[1].Text = "" },
		"Text too long":         func(s *impl.Session) { s.Way[1].Text += s.Block[8:9] },
		"Text too short":        func(s *impl.Session) { s.Way[1].Text = s.Way[1].Text[:7] },
		"last Text filled":      func(s *impl.Session) { s.Way[0].Text += "\x00\x00\x00" },
		"data with Got":         func(s *impl.Session) { s.Way[1].Got = []bool{true, true, false} },
		"data with one Got":     func(s *impl.Session) { s.Way[1].Got = []bool{false} },
		"a Back without kind":   func(s *impl.Session) { s.Back[0].Kind = 0 },
		"a Back of kind 1":      func(s *impl.Session) { s.Back[0].Kind = 1 },
		"a Back of kind 3":      func(s *impl.Session) { s.Back[0].Kind = 3 },
		"nothing on the way":    func(s *impl.Session) { s.Back[0] = impl.Segment{} },
		"a report with At":      func(s *impl.Session) { s.Back[0].At = 1 },
		"a report with -1":      func(s *impl.Session) { s.Back[1].At = -1 },
		"a report with Text":    func(s *impl.Session) { s.Back[0].Text = "a" },
		"a report with Check":   func(s *impl.Session) { s.Back[0].Check = true },
		"a report of nothing":   func(s *impl.Session) { s.Back[0].Got = nil },
		"a report too short":    func(s *impl.Session) { s.Back[0].Got = []bool{true, true} },
		"a report too long":     func(s *impl.Session) { s.Back[0].Got = []bool{true, true, false, false} },
		"a report of too much":  func(s *impl.Session) { s.Back[0].Got = []bool{true, true, true} },
		"a later one so":        func(s *impl.Session) { s.Back[1].Got = []bool{false, false, true} },
		"one of six at its end": func(s *impl.Session) { s.Back[1].Got = []bool{true, true, false, false, false, true} },
		"31 on the Way": func(s *impl.Session) {
			s.Way = slices.Repeat([]impl.Segment{dataOf(s.Block, 0, true)}, 31)
		},
		"31 on the way Back": func(s *impl.Session) {
			s.Back = slices.Repeat([]impl.Segment{reportOf(true, true, false)}, 31)
		},
		"1000 on the Way": func(s *impl.Session) {
			s.Way = slices.Repeat([]impl.Segment{dataOf(s.Block, 0, true)}, 1000)
		},
		"1000 on the way Back": func(s *impl.Session) {
			s.Back = slices.Repeat([]impl.Segment{reportOf(true, true, false)}, 1000)
		},
	}
}

func TestSpoiltSessions(t *testing.T) {
	for what, spoil := range spoilt() {
		s := copySession(onTheWay())
		spoil(&s)
		wantBadSession(t, what, s)
	}
	s := finished()
	s.Done = false
	wantBadSession(t, "all Acked and not Done", s)
	s = finished()
	s.Acked[1] = false
	wantBadSession(t, "Done and one not Acked", s)
	s = finished()
	s.Back[0].Got = []bool{true, false, true, true}
	wantBadSession(t, "a report of one more segment", s)
}

func TestSessionAtItsLimits(t *testing.T) {
	s := onTheWay()
	s.Way = slices.Repeat([]impl.Segment{dataOf(s.Block, 0, true), dataOf(s.Block, 1, false)}, 15)
	s.Back = slices.Repeat([]impl.Segment{reportOf(true, true, false), reportOf(false, false, false)}, 15)
	wantGoodSession(t, "both links full", s)
	for at := range 30 {
		one := copySession(s)
		one.Way[at].At = 2
		wantBadSession(t, "one of all on the Way", one)
		one = copySession(s)
		one.Back[at].Got[2] = true
		wantBadSession(t, "one of all on the way Back", one)
	}
}

func TestReceivedKnown(t *testing.T) {
	block := "a block of many bytes"
	for _, s := range []impl.Session{onTheWay(), newSession(block), sessionWhere(block, []bool{true, false, true}, []bool{true, false, true})} {
		if r, ok := impl.Received(s); r != "" || ok {
			t.Errorf("%#v: %q, %v", s, r, ok)
		}
	}
	none := []bool{false, false, false}
	for _, s := range []impl.Session{finished(), sessionWhere(block, []bool{true, true, true}, none)} {
		if r, ok := impl.Received(s); r != block || !ok {
			t.Errorf("%#v: %q, %v", s, r, ok)
		}
	}
}

func TestSegmentsLeftKnown(t *testing.T) {
	if l, ok := impl.SegmentsLeft(onTheWay()); !ok || !slices.Equal(l, []int{1, 2}) {
		t.Error(l, ok)
	}
	if l, ok := impl.SegmentsLeft(finished()); !ok || len(l) != 0 {
		t.Error(l, ok)
	}
	if l, ok := impl.SegmentsLeft(newSession(mixedBytes(impl.MaxBlock))); !ok || !slices.Equal(l, []int{0, 1, 2, 3, 4}) {
		t.Error(l, ok)
	}
}
