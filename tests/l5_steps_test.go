package tests

import (
	"math/rand"
	"slices"
	"strings"
	"testing"

	"loop.example/g00315/impl"
)

// plainTaken is what a good session is once its segment or report with the number k was taken.
func plainTaken(s impl.Session, back bool, k int) impl.Session {
	if back {
		for i, came := range s.Back[k].Got {
			if came {
				s.Acked[i] = true
			}
		}
		s.Done = plainAll(s.Acked)
		s.Back = slices.Delete(s.Back, k, k+1)
		return s
	}
	x := s.Way[k]
	s.Way = slices.Delete(s.Way, k, k+1)
	s.Got[x.At] = true
	s.Bytes = plainCame(s.Block, s.Got)
	if x.Check && len(s.Back) < 30 {
		s.Back = append(s.Back, reportOf(slices.Clone(s.Got)...))
	}
	return s
}

// plainSent is what a good session is once it has sent, if it can.
func plainSent(s impl.Session) (impl.Session, bool) {
	last, many := 0, 0
	for i, known := range s.Acked {
		if !known {
			last = i
			many++
		}
	}
	if many == 0 || len(s.Way)+many > 30 {
		return impl.Session{}, false
	}
	for i, known := range s.Acked {
		if !known {
			s.Way = append(s.Way, dataOf(s.Block, i, i == last))
		}
	}
	return s, true
}

// plainStep is what the document tells of a step.
func plainStep(s impl.Session, x impl.SesStep) (impl.Session, bool) {
	if !plainSession(s) {
		return impl.Session{}, false
	}
	s = copySession(s)
	if x.Kind == 1 {
		return plainSent(s)
	}
	on := &s.Way
	if x.Back {
		on = &s.Back
	}
	if x.K < 0 || x.K >= len(*on) {
		return impl.Session{}, false
	}
	switch x.Kind {
	case 2:
		return plainTaken(s, x.Back, x.K), true
	case 3:
		*on = slices.Delete(*on, x.K, x.K+1)
		return s, true
	case 4:
		if len(*on) < 30 {
			again := (*on)[x.K]
			again.Got = slices.Clone(again.Got)
			*on = append(*on, again)
			return s, true
		}
	}
	return impl.Session{}, false
}

// plainCalm goes on by steps alone, till nothing is left to be done.
func plainCalm(s impl.Session) (impl.Session, int, bool) {
	for sent := 0; ; sent++ {
		for len(s.Way) > 0 {
			s, _ = plainStep(s, impl.SesStep{Kind: impl.SesTake})
		}
		for len(s.Back) > 0 {
			s, _ = plainStep(s, impl.SesStep{Kind: impl.SesTake, Back: true})
		}
		if s.Done {
			return s, sent, true
		}
		if sent == 10 {
			return impl.Session{}, 0, false
		}
		s, _ = plainStep(s, impl.SesStep{Kind: impl.SesSend})
	}
}

func checkStep(t *testing.T, s impl.Session, x impl.SesStep) bool {
	t.Helper()
	_, ok := stepped(t, s, x)
	return ok
}

// stepped hands on what there is after a step that the document's words agree with.
func stepped(t *testing.T, s impl.Session, x impl.SesStep) (impl.Session, bool) {
	t.Helper()
	was := copySession(s)
	want, can := plainStep(s, x)
	next, ok := impl.StepSession(s, x)
	if !sameSession(next, want) || ok != can {
		t.Fatalf("StepSession(%#v, %#v) = %#v, %v, not %#v, %v", s, x, next, ok, want, can)
	}
	if !sameSession(s, was) {
		t.Fatalf("written into: %#v, once %#v", s, was)
	}
	return next, ok
}

func wantStep(t *testing.T, s impl.Session, x impl.SesStep) impl.Session {
	t.Helper()
	next, ok := stepped(t, s, x)
	if !ok {
		t.Fatalf("not done: StepSession(%#v, %#v)", s, x)
	}
	return next
}

func wantNoStep(t *testing.T, what string, s impl.Session, x impl.SesStep) {
	t.Helper()
	if next, ok := stepped(t, s, x); ok {
		t.Errorf("%s: StepSession(%#v, %#v) = %#v", what, s, x, next)
	}
}

func sends() impl.SesStep { return impl.SesStep{Kind: impl.SesSend} }

func takes(k int) impl.SesStep { return impl.SesStep{Kind: impl.SesTake, K: k} }

func takesBack(k int) impl.SesStep { return impl.SesStep{Kind: impl.SesTake, Back: true, K: k} }

func loses(k int) impl.SesStep { return impl.SesStep{Kind: impl.SesLose, K: k} }

func losesBack(k int) impl.SesStep { return impl.SesStep{Kind: impl.SesLose, Back: true, K: k} }

func doubles(k int) impl.SesStep { return impl.SesStep{Kind: impl.SesTwice, K: k} }

func doublesBack(k int) impl.SesStep { return impl.SesStep{Kind: impl.SesTwice, Back: true, K: k} }

// checkPlay holds a play against its steps one by one.
func checkPlay(t *testing.T, block string, l []impl.SesStep) impl.Session {
	t.Helper()
	was := slices.Clone(l)
	want, did := newSession(block), make([]bool, len(l))
	for i, x := range l {
		if next, ok := plainStep(want, x); ok {
			want, did[i] = next, true
		}
	}
	s, done, ok := impl.PlaySession(block, l)
	if !ok || !slices.Equal(done, did) || !sameSession(s, want) {
		t.Fatalf("PlaySession(%q, %#v) = %#v, %v, %v, not %#v, %v", block, l, s, done, ok, want, did)
	}
	if !slices.Equal(l, was) {
		t.Fatalf("written into: %#v, once %#v", l, was)
	}
	return s
}

// wantSure asks for promise 5: what is told to have come has come, and once nothing is lost all does, in one sending more.
func wantSure(t *testing.T, s impl.Session) {
	t.Helper()
	told := append([]impl.Segment{reportOf(s.Acked...)}, s.Back...)
	for _, x := range told {
		if !plainUnder(x.Got, s.Got) {
			t.Fatalf("told and not come: %#v", s)
		}
	}
	for i := range s.Block {
		if came := s.Got[i/8]; came && s.Bytes[i] != s.Block[i] || !came && s.Bytes[i] != 0 {
			t.Fatalf("byte %d: %#v", i, s)
		}
	}
	c, n, ok := impl.CalmSession(s)
	if !ok || n < 0 || n > 1 || !c.Done || !plainAll(c.Acked) || len(c.Way) != 0 || len(c.Back) != 0 {
		t.Fatalf("CalmSession(%#v) = %#v, %d, %v", s, c, n, ok)
	}
	if r, ok := impl.Received(c); r != s.Block || !ok {
		t.Fatalf("Received(%#v) = %q, %v", c, r, ok)
	}
	if l, ok := impl.SegmentsLeft(c); len(l) != 0 || !ok {
		t.Fatalf("SegmentsLeft(%#v) = %v, %v", c, l, ok)
	}
}

func wantCalm(t *testing.T, s impl.Session, sent int) {
	t.Helper()
	checkSession(t, s)
	wantSure(t, s)
	if _, n, _ := impl.CalmSession(s); n != sent {
		t.Errorf("CalmSession(%#v) sent %d times, not %d", s, n, sent)
	}
}

func TestSessionKnown(t *testing.T) {
	block := "a block of many bytes"
	s, did, ok := impl.PlaySession(block, []impl.SesStep{sends(), takes(1), takes(1)})
	want := impl.Session{
		Block: block, Acked: []bool{false, false, false}, Got: []bool{false, true, true},
		Bytes: "\x00\x00\x00\x00\x00\x00\x00\x00of many bytes",
		Way:   []impl.Segment{{Kind: 1, At: 0, Text: "a block "}},
		Back:  []impl.Segment{{Kind: 2, Got: []bool{false, true, true}}},
	}
	if !ok || !slices.Equal(did, []bool{true, true, true}) || !sameSession(s, want) {
		t.Fatalf("%#v, %v, %v", s, did, ok)
	}
	s, ok = impl.StepSession(s, takesBack(0))
	want.Acked, want.Back = []bool{false, true, true}, nil
	if !ok || !sameSession(s, want) {
		t.Fatalf("%#v, %v", s, ok)
	}
	s, ok = impl.StepSession(s, sends())
	want.Way = append(want.Way, impl.Segment{Kind: 1, At: 0, Text: "a block ", Check: true})
	if !ok || !sameSession(s, want) {
		t.Fatalf("%#v, %v", s, ok)
	}
	s, ok = impl.StepSession(s, takes(0))
	want.Way, want.Got, want.Bytes = want.Way[1:], []bool{true, true, true}, block
	if !ok || !sameSession(s, want) {
		t.Fatalf("%#v, %v", s, ok)
	}
	s, ok = impl.StepSession(s, takes(0))
	want.Way, want.Back = nil, []impl.Segment{{Kind: 2, Got: []bool{true, true, true}}}
	if !ok || !sameSession(s, want) {
		t.Fatalf("%#v, %v", s, ok)
	}
	s, ok = impl.StepSession(s, takesBack(0))
	want.Back, want.Acked, want.Done = nil, []bool{true, true, true}, true
	if !ok || !sameSession(s, want) {
		t.Fatalf("%#v, %v", s, ok)
	}
}

func TestSessionWholeWay(t *testing.T) {
	for _, many := range []int{1, 2, 7, 8, 9, 15, 16, 17, 31, 32, 33, 39, 40} {
		block := mixedBytes(many)
		s, texts := newSession(block), plainTexts(block)
		wantCalm(t, s, 1)
		s = wantStep(t, s, sends())
		if len(s.Way) != len(texts) {
			t.Fatalf("%#v", s)
		}
		for i, x := range s.Way {
			if x.At != i || x.Text != texts[i] || x.Check != (i == len(texts)-1) {
				t.Fatalf("%#v", s)
			}
		}
		for range texts {
			wantCalm(t, s, 0)
			if r, ok := impl.Received(s); r != "" || ok {
				t.Fatalf("%#v: %q, %v", s, r, ok)
			}
			s = wantStep(t, s, takes(0))
		}
		if r, ok := impl.Received(s); r != block || !ok || s.Done || len(s.Back) != 1 {
			t.Fatalf("%#v: %q, %v", s, r, ok)
		}
		wantCalm(t, s, 0)
		wantCalm(t, wantStep(t, s, losesBack(0)), 1)
		s = wantStep(t, s, takesBack(0))
		if !s.Done {
			t.Fatalf("%#v", s)
		}
		wantCalm(t, s, 0)
		wantNoStep(t, "Done", s, sends())
	}
}

func TestLostSegments(t *testing.T) {
	block := mixedBytes(impl.MaxBlock)
	for k := range 5 {
		s := wantStep(t, wantStep(t, newSession(block), sends()), loses(k))
		wantCalm(t, s, 1)
		for len(s.Way) > 0 {
			s = wantStep(t, s, takes(0))
		}
		if k == 4 {
			if len(s.Back) != 0 {
				t.Errorf("a report that nothing asked for: %#v", s)
			}
			continue
		}
		s = wantStep(t, s, takesBack(0))
		if l, ok := impl.SegmentsLeft(s); !ok || !slices.Equal(l, []int{k}) {
			t.Errorf("without %d: %v, %v", k, l, ok)
		}
	}
}

func TestOneLeftAsks(t *testing.T) {
	for _, many := range []int{1, 8, 9, 16, 23, 40} {
		block := mixedBytes(many)
		segments := len(plainTexts(block))
		for one := range segments {
			acked := slices.Repeat([]bool{true}, segments)
			acked[one] = false
			s := sessionWhere(block, acked, acked)
			next := wantStep(t, s, sends())
			if len(next.Way) != 1 || next.Way[0].At != one || !next.Way[0].Check {
				t.Errorf("%d bytes, all but %d: %#v", many, one, next.Way)
			}
			wantCalm(t, s, 1)
			wantCalm(t, next, 0)
		}
	}
}

func TestSomeLeftLastAsks(t *testing.T) {
	block := mixedBytes(35)
	for bits := range 31 {
		acked, last := make([]bool, 5), 0
		for i := range acked {
			acked[i] = bits>>i&1 == 1
			if !acked[i] {
				last = i
			}
		}
		s := wantStep(t, sessionWhere(block, acked, acked), sends())
		left, _ := impl.SegmentsLeft(s)
		for i, x := range s.Way {
			if x.At != left[i] || x.Check != (x.At == last) {
				t.Errorf("acked %v: %#v", acked, s.Way)
			}
		}
	}
}

func TestTakenTwice(t *testing.T) {
	block := mixedBytes(20)
	s := wantStep(t, newSession(block), sends())
	s = wantStep(t, s, doubles(2))
	s = wantStep(t, s, doubles(0))
	if len(s.Way) != 5 || s.Way[3].At != 2 || !s.Way[3].Check || s.Way[4].At != 0 || s.Way[4].Check {
		t.Fatalf("%#v", s.Way)
	}
	wantCalm(t, s, 0)
	for range 5 {
		s = wantStep(t, s, takes(0))
	}
	if len(s.Back) != 2 || !plainAll(s.Back[0].Got) || !plainAll(s.Back[1].Got) {
		t.Fatalf("%#v", s.Back)
	}
	s = wantStep(t, s, doublesBack(0))
	s = wantStep(t, s, takesBack(2))
	if !s.Done || len(s.Back) != 2 {
		t.Fatalf("%#v", s)
	}
	s = wantStep(t, s, takesBack(1))
	s = wantStep(t, s, takesBack(0))
	wantCalm(t, s, 0)
}

func TestOutOfOrder(t *testing.T) {
	block := mixedBytes(40)
	s := wantStep(t, newSession(block), sends())
	for k := 4; k >= 0; k-- {
		s = wantStep(t, s, takes(k))
		if want := strings.Repeat("\x00", 8*k) + block[8*k:]; s.Bytes != want {
			t.Fatalf("%q, not %q", s.Bytes, want)
		}
	}
	if len(s.Back) != 1 || !slices.Equal(s.Back[0].Got, []bool{false, false, false, false, true}) {
		t.Fatalf("the report tells what came ahead of it: %#v", s.Back)
	}
	s = wantStep(t, s, takesBack(0))
	if r, ok := impl.Received(s); r != block || !ok || s.Done {
		t.Errorf("%q, %v", r, ok)
	}
	wantCalm(t, s, 1)
}

func TestLateReport(t *testing.T) {
	block := mixedBytes(24)
	s := newSession(block)
	s.Way = []impl.Segment{dataOf(block, 1, true), dataOf(block, 0, true), dataOf(block, 2, true)}
	for range 3 {
		s = wantStep(t, s, takes(0))
	}
	s = wantStep(t, s, takesBack(1))
	if !slices.Equal(s.Acked, []bool{true, true, false}) {
		t.Fatalf("%#v", s.Acked)
	}
	s = wantStep(t, s, takesBack(0))
	if !slices.Equal(s.Acked, []bool{true, true, false}) || s.Done {
		t.Fatalf("the late one took back: %#v", s.Acked)
	}
	wantCalm(t, s, 0)
	s = wantStep(t, s, takesBack(0))
	if !s.Done {
		t.Fatalf("%#v", s)
	}
}

// withOn is a session with that many on each link.
func withOn(block string, way int, back int) impl.Session {
	s := newSession(block)
	segments := len(s.Got)
	for i := range way {
		s.Way = append(s.Way, dataOf(block, i%segments, i%3 == 0))
	}
	for range back {
		s.Back = append(s.Back, reportOf(make([]bool, segments)...))
	}
	return s
}

func TestRoomForAll(t *testing.T) {
	for _, many := range []int{1, 8, 9, 24, 40} {
		block := mixedBytes(many)
		segments := len(plainTexts(block))
		for on := range impl.MaxOnLink + 1 {
			s := withOn(block, on, impl.MaxOnLink)
			next, ok := stepped(t, s, sends())
			if ok != (on <= impl.MaxOnLink-segments) {
				t.Errorf("%d bytes, %d on the way: %v", many, on, ok)
			}
			if ok && len(next.Way) != on+segments {
				t.Errorf("%d bytes, %d on the way: %d", many, on, len(next.Way))
			}
			wantSure(t, s)
		}
	}
	acked := []bool{true, false, true, false, true}
	s := sessionWhere(mixedBytes(40), acked, acked)
	s.Way = withOn(s.Block, 28, 0).Way
	wantStep(t, s, sends())
	s.Way = withOn(s.Block, 29, 0).Way
	wantNoStep(t, "room for one of two", s, sends())
}

func TestRoomForOneMore(t *testing.T) {
	block := mixedBytes(40)
	s := withOn(block, 29, 29)
	for _, k := range []int{0, 1, 27, 28} {
		next := wantStep(t, s, doubles(k))
		if len(next.Way) != 30 || next.Way[29].At != s.Way[k].At || next.Way[29].Check != s.Way[k].Check {
			t.Errorf("%d: %#v", k, next.Way)
		}
		wantNoStep(t, "full", next, doubles(k))
		wantStep(t, next, doublesBack(k))
		wantNoStep(t, "full", wantStep(t, s, doublesBack(k)), doublesBack(k))
		wantStep(t, wantStep(t, next, loses(29)), doubles(k))
	}
}

func TestReportWithoutRoom(t *testing.T) {
	block := mixedBytes(24)
	for _, on := range []int{28, 29, 30} {
		s := withOn(block, 0, on)
		s.Way = []impl.Segment{dataOf(block, 2, true)}
		next := wantStep(t, s, takes(0))
		if !next.Got[2] || len(next.Way) != 0 || len(next.Back) != min(on+1, 30) {
			t.Errorf("%d: %#v", on, next)
		}
		told := slices.ContainsFunc(next.Back, func(x impl.Segment) bool { return x.Got[2] })
		if told != (on < 30) {
			t.Errorf("%d: told %v", on, told)
		}
		wantCalm(t, s, 1)
	}
	s := withOn(block, 0, 30)
	s.Way = []impl.Segment{dataOf(block, 0, false), dataOf(block, 1, true), dataOf(block, 2, true)}
	wantCalm(t, s, 1)
	s.Back = s.Back[:29]
	wantCalm(t, s, 1)
	s.Back = s.Back[:28]
	wantCalm(t, s, 0)
}

func TestFirstAndLastNumber(t *testing.T) {
	for _, many := range []int{1, 2, 29, 30} {
		s := withOn(mixedBytes(33), many, many)
		for _, back := range []bool{false, true} {
			for _, kind := range []int{impl.SesTake, impl.SesLose} {
				for _, k := range []int{0, many - 1} {
					wantStep(t, s, impl.SesStep{Kind: kind, Back: back, K: k})
				}
				for _, k := range []int{-1, many, many + 1, 31} {
					wantNoStep(t, "no such number", s, impl.SesStep{Kind: kind, Back: back, K: k})
				}
			}
			for _, k := range []int{-1, many} {
				wantNoStep(t, "no such number", s, impl.SesStep{Kind: impl.SesTwice, Back: back, K: k})
			}
		}
	}
	s := withOn(mixedBytes(33), 3, 0)
	wantNoStep(t, "of the other link", s, takesBack(0))
	wantNoStep(t, "of the other link", s, losesBack(0))
	wantNoStep(t, "of the other link", s, doublesBack(0))
	s = withOn(mixedBytes(33), 0, 3)
	wantNoStep(t, "of the other link", s, takes(0))
	wantNoStep(t, "of the other link", s, loses(0))
	wantNoStep(t, "of the other link", s, doubles(0))
}

func TestUnknownSteps(t *testing.T) {
	for _, x := range allSteps() {
		if x.Kind < 1 || x.Kind > 4 {
			wantNoStep(t, "unknown", onTheWay(), x)
			wantNoStep(t, "unknown", finished(), x)
			wantNoStep(t, "unknown", withOn(mixedBytes(40), 30, 30), x)
		}
	}
}

func TestDoneSession(t *testing.T) {
	s := finished()
	wantNoStep(t, "Done", s, sends())
	for _, x := range []impl.SesStep{takes(0), takes(1), takesBack(0), loses(1), losesBack(0), doubles(0), doublesBack(0)} {
		if next := wantStep(t, s, x); !next.Done || next.Bytes != next.Block {
			t.Errorf("%#v: %#v", x, next)
		}
	}
	c, n, ok := impl.CalmSession(s)
	if !ok || n != 0 || !c.Done || len(c.Way) != 0 || len(c.Back) != 0 {
		t.Errorf("%#v, %d, %v", c, n, ok)
	}
	if r, ok := impl.Received(s); r != s.Block || !ok {
		t.Errorf("%q, %v", r, ok)
	}
}

func TestPlaysAtTheirLimits(t *testing.T) {
	block := mixedBytes(40)
	checkPlay(t, block, nil)
	checkPlay(t, block, []impl.SesStep{})
	l := make([]impl.SesStep, 0, 162)
	for range 40 {
		l = append(l, sends(), doubles(3), takes(4), takesBack(0))
	}
	if len(l) != impl.MaxSessionSteps {
		t.Fatal(len(l))
	}
	s := checkPlay(t, block, l)
	wantSure(t, s)
	for range 2 {
		l = append(l, sends())
		if s, did, ok := impl.PlaySession(block, l); ok || len(did) != 0 || !sameSession(s, impl.Session{}) {
			t.Errorf("%d steps: %#v, %v, %v", len(l), s, did, ok)
		}
	}
	checkPlay(t, block, l[:160])
	checkPlay(t, block, allSteps()[:160])
	checkPlay(t, block, slices.Repeat([]impl.SesStep{sends()}, 160))
}

func TestPlayGoesOnBehindWhatIsNotDone(t *testing.T) {
	s, did, ok := impl.PlaySession("abc", []impl.SesStep{takes(0), {}, sends(), takes(1), takes(0), losesBack(1), takesBack(0), sends()})
	if !ok || !slices.Equal(did, []bool{false, false, true, false, true, false, true, false}) || !s.Done {
		t.Errorf("%#v, %v, %v", s, did, ok)
	}
}

// someBlock has bytes 0 among others.
func someBlock(r *rand.Rand) string {
	b := make([]byte, 1+r.Intn(impl.MaxBlock))
	for i := range b {
		b[i] = "\x00ab\xff"[r.Intn(4)]
	}
	return string(b)
}

// someStep is most often one that can be done.
func someStep(r *rand.Rand) impl.SesStep {
	x := impl.SesStep{Kind: 1 + r.Intn(4), Back: r.Intn(2) == 0, K: r.Intn(4)}
	if r.Intn(5) == 0 {
		x.K = r.Intn(34) - 2
	}
	if r.Intn(30) == 0 {
		x.Kind = r.Intn(9) - 2
	}
	return x
}

func TestSessionsMixed(t *testing.T) {
	r := rand.New(rand.NewSource(5))
	finished := 0
	for range 300 {
		block := someBlock(r)
		s := newSession(block)
		var l []impl.SesStep
		for range 1 + r.Intn(impl.MaxSessionSteps) {
			l = append(l, someStep(r))
			if next, ok := stepped(t, s, l[len(l)-1]); ok {
				s = next
				checkSession(t, s)
				wantSure(t, s)
			}
		}
		if played := checkPlay(t, block, l); !sameSession(played, s) {
			t.Fatalf("%#v, not %#v", played, s)
		}
		if s.Done {
			finished++
		}
	}
	if finished < 30 || finished > 270 {
		t.Errorf("%d of 300 Done tell little", finished)
	}
}

func TestGoodSessionsMixed(t *testing.T) {
	r := rand.New(rand.NewSource(55))
	some := func(most []bool) []bool {
		l := slices.Clone(most)
		for i := range l {
			l[i] = l[i] && r.Intn(2) == 0
		}
		return l
	}
	for range 5000 {
		block := someBlock(r)
		all := slices.Repeat([]bool{true}, len(plainTexts(block)))
		got := some(all)
		s := sessionWhere(block, got, some(got))
		for range r.Intn(impl.MaxOnLink + 1) {
			s.Way = append(s.Way, dataOf(block, r.Intn(len(all)), r.Intn(2) == 0))
		}
		for range r.Intn(impl.MaxOnLink + 1) {
			s.Back = append(s.Back, reportOf(some(got)...))
		}
		if !checkSession(t, s) {
			t.Fatalf("%#v isn't good", s)
		}
		wantSure(t, s)
		for range 3 {
			checkStep(t, s, someStep(r))
		}
	}
}

func TestStepsOtherFields(t *testing.T) {
	s := onTheWay()
	want := wantStep(t, s, sends())
	for _, x := range []impl.SesStep{{Kind: impl.SesSend, Back: true}, {Kind: impl.SesSend, K: 99}, {Kind: impl.SesSend, K: -1}} {
		if next := wantStep(t, s, x); !sameSession(next, want) {
			t.Errorf("%#v: %#v", x, next)
		}
	}
}

// boolLists are all lists of bools in a session.
func boolLists(s impl.Session) [][]bool {
	l := [][]bool{s.Acked, s.Got}
	for _, x := range append(slices.Clone(s.Way), s.Back...) {
		l = append(l, x.Got)
	}
	return l
}

// turn writes into a list, and into the room behind it.
func turn(l []bool) {
	l = l[:cap(l)]
	for i := range l {
		l[i] = !l[i]
	}
}

// wantOwn asks that no list of the answer shares memory with another one, or with the arguments.
func wantOwn(t *testing.T, what string, answer impl.Session, argument impl.Session) {
	t.Helper()
	lists := append(boolLists(answer), boolLists(argument)...)
	var was [][]bool
	for _, l := range lists {
		was = append(was, slices.Clone(l))
	}
	for i := range boolLists(answer) {
		turn(lists[i])
		for j, l := range lists {
			if j != i && !slices.Equal(l, was[j]) {
				t.Fatalf("%s: list %d and list %d share memory", what, i, j)
			}
		}
		turn(lists[i])
	}
	way, back := copySegments(argument.Way), copySegments(argument.Back)
	for _, l := range [][]impl.Segment{answer.Way[:cap(answer.Way)], answer.Back[:cap(answer.Back)]} {
		for i := range l {
			l[i] = impl.Segment{At: 7}
		}
	}
	if !sameSegments(argument.Way, way) || !sameSegments(argument.Back, back) {
		t.Fatalf("%s: links share memory", what)
	}
}

func TestSessionsNewMemory(t *testing.T) {
	steps := []impl.SesStep{sends(), takes(0), takesBack(0), loses(1), losesBack(1), doubles(0), doublesBack(1)}
	for _, x := range steps {
		s := onTheWay()
		next := wantStep(t, s, x)
		texts := []string{s.Block, s.Bytes, next.Block, next.Bytes}
		for _, y := range next.Way {
			texts = append(texts, y.Text)
		}
		apart(t, "StepSession", texts...)
		wantOwn(t, "StepSession", next, s)
	}
	s := finished()
	c, _, _ := impl.CalmSession(s)
	apart(t, "CalmSession", s.Block, s.Bytes, c.Block, c.Bytes)
	wantOwn(t, "CalmSession", c, s)
	r, _ := impl.Received(s)
	apart(t, "Received", s.Block, s.Bytes, r)
	block := mixedBytes(40)
	n, _ := impl.NewSession(block)
	apart(t, "NewSession", block, n.Block, n.Bytes)
	wantOwn(t, "NewSession", n, impl.Session{})
	p, did, _ := impl.PlaySession(block, []impl.SesStep{sends(), takes(4), doublesBack(0)})
	apart(t, "PlaySession", block, p.Block, p.Bytes, p.Way[0].Text, p.Way[3].Text)
	was := copySession(p)
	turn(did)
	if !sameSession(p, was) {
		t.Error("PlaySession: what was done shares memory with the session")
	}
	wantOwn(t, "PlaySession", p, impl.Session{})
}

func TestSessionBehindItsLengths(t *testing.T) {
	s := onTheWay()
	s.Acked = append(s.Acked, true, true)[:3]
	s.Got = append(s.Got, true, true)[:3]
	s.Way = append(s.Way, dataOf(s.Block, 1, true), impl.Segment{At: -1})[:2]
	s.Back = append(s.Back, reportOf(true, true, false), impl.Segment{At: -1})[:2]
	s.Back[0].Got = append(s.Back[0].Got, true)[:3]
	acked, got := slices.Clone(s.Acked[:5]), slices.Clone(s.Got[:5])
	way, back := copySegments(s.Way[:4]), copySegments(s.Back[:4])
	wantGoodSession(t, "more behind", s)
	steps := append(make([]impl.SesStep, 0, 9), sends(), takes(2))
	checkPlay(t, s.Block, steps[:1])
	if !slices.Equal(steps[:3], []impl.SesStep{sends(), takes(2), {}}) {
		t.Errorf("written behind: %#v", steps[:3])
	}
	if !slices.Equal(acked, s.Acked[:5]) || !slices.Equal(got, s.Got[:5]) || !s.Back[0].Got[:4][3] {
		t.Errorf("written behind: %#v", s)
	}
	if !sameSegments(way, s.Way[:4]) || !sameSegments(back, s.Back[:4]) {
		t.Errorf("written behind: %#v, %#v", s.Way[:4], s.Back[:4])
	}
}
