package tests

import (
	"fmt"
	"math/rand"
	"slices"
	"strconv"
	"strings"
	"sync"
	"testing"

	"loop.example/g00315/impl"
)

// someScript has a line of each kind, some that answer no, and some that are unknown.
func someScript() []string {
	return []string{
		"meet 0 1 5 10 2", "meet 1 2 0 9 1", "when 0 0 2", "flood 0 0 7", "send 1", "send 1", "give 0 0", "twice 0", "take 0", "safe 3 1", "lose 0", "safe 3 0",
		"meet 1 1 2 3 4", "take 0", "calm", "", "safe 2 1", "sdnv 300", "most 5 2 12", "late 3 4 2 3 5 9 4 5", "fly", "send 4", "give 0 1", "meet 2 0 0 1000 9", "when 2 0 1",
	}
}

// numberNear is up to so much, but sometimes far greater, or no number.
func numberNear(r *rand.Rand, most int) string {
	if r.Intn(25) == 0 {
		return []string{"9999999", "1000001", "1001", "101", "8", "00", "01", "-1", "12345678", "x", "", "\xff"}[r.Intn(12)]
	}
	return strconv.Itoa(r.Intn(most + 1))
}

// anyLine is mostly one that can be done; until is till when its contacts are.
func anyLine(r *rand.Rand, x plainNet, until int) string {
	n := func(most int) string { return " " + numberNear(r, most) }
	switch r.Intn(16) {
	case 0, 1, 2:
		return meetLines([]impl.Contact{someContact(r, 5, until)})[0]
	case 3:
		return "meet" + n(7) + n(7) + n(until) + n(until) + n(100)
	case 4, 5:
		return "when" + n(5) + n(until/3) + n(5)
	case 6:
		return "flood" + n(5) + n(until/3) + n(until)
	case 7:
		return "send" + n(5)
	case 8:
		return "calm"
	case 9:
		return "safe" + n(3) + n(5)
	case 10:
		return "sdnv" + n([]int{100, 10000, 9999999}[r.Intn(3)])
	case 11:
		return "most" + n(50) + n(20) + n(1000000)
	case 12:
		line := "late"
		for range r.Intn(12) {
			line += n(20) + n(60)
		}
		return line
	}
	return stepLine(anyCustodyStep(r, x.custody))
}

// stepLine tells a step as it is, whatever its numbers are.
func stepLine(s impl.CusStep) string {
	switch s.Kind {
	case impl.CusSend:
		return fmt.Sprintf("send %d", s.Id)
	case impl.CusGive:
		return fmt.Sprintf("give %d %d", s.Node, s.K)
	case impl.CusTake:
		return fmt.Sprintf("take %d", s.K)
	case impl.CusLose:
		return fmt.Sprintf("lose %d", s.K)
	case impl.CusTwice:
		return fmt.Sprintf("twice %d", s.K)
	}
	return fmt.Sprintf("step %d %d", s.Kind, s.K)
}

// anyScript is one that is not too long.
func anyScript(r *rand.Rand, many int) string {
	x := plainNet{custody: newCustody(-1, 0, 0, 1)}
	until, script := []int{10, 100, 1000}[r.Intn(3)], ""
	for range many {
		line := anyLine(r, x, until) + "\n"
		if len(script)+len(line) > 2500 {
			break
		}
		x.answer(strings.TrimSuffix(line, "\n"))
		script += line
	}
	return script
}

// TestAnswersDoNotHangOnWhatFollows puts all kinds of lines behind each beginning.
func TestAnswersDoNotHangOnWhatFollows(t *testing.T) {
	lines := someScript()
	all := impl.RunNet(scriptOf(lines...))
	if strings.Count(all, "\n") != len(lines) {
		t.Fatalf("%q", all)
	}
	for k := range lines {
		begun := scriptOf(lines[:k]...)
		answers := impl.RunNet(begun)
		if strings.Count(answers, "\n") != k || !strings.HasPrefix(all, answers) {
			t.Errorf("RunNet(%q) = %q, where all are %q", begun, answers, all)
		}
		for _, behind := range append(lines, "", " ", "x", "\xff", "\x00", "calm ", "take 0", "lose 0", lateLine(200, 1, 1), strings.Repeat("\n", 50)) {
			if got := impl.RunNet(begun + behind + "\n"); !strings.HasPrefix(got, answers) || strings.Count(got, "\n") != k+1+strings.Count(behind, "\n") {
				t.Errorf("RunNet(%q) = %q, %q without the last line", begun+behind+"\n", got, answers)
			}
		}
	}
	checkScript(t, scriptOf(lines...))
}

// TestAnswersHangOnNothingElse asks in between for other scripts, and in another order.
func TestAnswersHangOnNothingElse(t *testing.T) {
	r := rand.New(rand.NewSource(1818))
	scripts, answers := []string{"", "calm\n", "no script", scriptOf(someScript()...)}, []string{}
	for range 30 {
		scripts = append(scripts, anyScript(r, 80))
	}
	for _, script := range scripts {
		answers = append(answers, impl.RunNet(script))
	}
	for range 3 {
		for _, k := range r.Perm(len(scripts)) {
			impl.NetOf(scripts[r.Intn(len(scripts))])
			if got := impl.RunNet(scripts[k]); got != answers[k] {
				t.Fatalf("RunNet(%q) = %q, once %q", scripts[k], got, answers[k])
			}
		}
	}
	var all sync.WaitGroup
	for k, script := range scripts {
		all.Go(func() {
			for range 20 {
				if got := impl.RunNet(script); got != answers[k] {
					t.Errorf("RunNet(%q) = %q, once %q", script, got, answers[k])
				}
			}
		})
	}
	all.Wait()
}

// TestScriptsByTheirFunctions goes on by hand, without any line.
func TestScriptsByTheirFunctions(t *testing.T) {
	r := rand.New(rand.NewSource(18))
	for range 300 {
		c, script, want := newCustody(-1, 0, 0, 1), "", ""
		for range 75 {
			s := anyCustodyStep(r, c)
			line := stepLine(s)
			if strings.HasPrefix(line, "step") || strings.Contains(line, "-") {
				continue
			}
			script += line + "\n"
			after, ok := plainCustodyStep(c, s)
			want += worded(ok, "ok") + "\n"
			if ok {
				c = after
			}
		}
		_, custody, ok := impl.NetOf(script)
		if got := impl.RunNet(script); got != want || !sameCustody(custody, c) || !ok {
			t.Fatalf("RunNet(%q) = %q, not %q; NetOf %+v, %v, not %+v", script, got, want, custody, ok, c)
		}
		wantKept(t, custody)
		calm, gave, _ := plainCalmCustody(c)
		_, custody, ok = impl.NetOf(script + "calm\n")
		if got := impl.RunNet(script + "calm\n"); got != want+fmt.Sprintf("gave %d\n", gave) || !sameCustody(custody, calm) || !ok {
			t.Fatalf("RunNet(%q) = %q; NetOf %+v, %v, not %+v", script+"calm\n", got, custody, ok, calm)
		}
	}
}

func TestScriptsMixed(t *testing.T) {
	r := rand.New(rand.NewSource(181818))
	many := map[string]int{}
	for range 800 {
		script := anyScript(r, 1+r.Intn(80))
		lines := strings.Split(script, "\n")
		for i, answer := range checkScript(t, script) {
			kind, _, _ := strings.Cut(lines[i], " ")
			first, _, _ := strings.Cut(answer, " ")
			many[kind+" "+first]++
		}
	}
	for _, both := range []string{
		"meet ok", "meet no", "meet what", "when at", "when no", "when what", "flood has", "flood no", "flood what", "send ok", "send no", "send what",
		"give ok", "give no", "take ok", "take no", "lose ok", "lose no", "twice ok", "twice no", "calm gave", "safe yes", "safe not", "safe no", "safe what",
		"sdnv bytes", "sdnv what", "most most", "most no", "most what", "late in", "late no", "late what", "step what",
	} {
		if many[both] < 10 {
			t.Errorf("%s: %d times", both, many[both])
		}
	}
	for both, often := range many {
		kind, answer, _ := strings.Cut(both, " ")
		if _, known := lineKinds()[kind]; answer == "" || answer != "what" && !known {
			t.Errorf("%s: %d times", both, often)
		}
	}
}

// TestOneByteOfALine turns, drops and puts in each byte at each place.
func TestOneByteOfALine(t *testing.T) {
	before := scriptOf("meet 0 1 0 9 1", "send 1", "send 3", "give 0 0", "give 0 1")
	for _, line := range []string{"meet 1 2 3 45 6", "when 0 0 1", "flood 0 0 10", "send 2", "give 0 1", "take 1", "lose 1", "twice 1", "calm", "safe 3 1", "sdnv 1234567", "most 5 2 10", "late 1 20 3 4"} {
		for at := range len(line) + 1 {
			if at < len(line) {
				checkScript(t, before+line[:at]+line[at+1:]+"\ncalm\n")
			}
			for b := range 256 {
				if at < len(line) {
					checkLast(t, before, line[:at]+string([]byte{byte(b)})+line[at+1:])
				}
				checkLast(t, before, line[:at]+string([]byte{byte(b)})+line[at:])
			}
		}
	}
}

// checkLast asks for the answers of one line, and of the two that it is where a byte 10 came into it.
func checkLast(t *testing.T, before string, line string) {
	t.Helper()
	x := plainNet{custody: newCustody(-1, 0, 0, 1)}
	want := ""
	script := before + line + "\n"
	lines, _ := plainScript(script)
	for _, line := range lines {
		want += x.answer(line) + "\n"
	}
	checkNet(t, script, x, want)
}

// TestScriptsSpoilt turns some bytes of a script: what is asked then is what is left of it.
func TestScriptsSpoilt(t *testing.T) {
	r := rand.New(rand.NewSource(81))
	none := 0
	for range 3000 {
		text := []byte(anyScript(r, 1+r.Intn(20)))
		for range 1 + r.Intn(4) {
			at := r.Intn(len(text) + 1)
			b := []byte(" \n0123456789acelmostw\x00\t\r\x80\xc3\xff")[r.Intn(27)]
			if at == len(text) || r.Intn(3) == 0 {
				text = slices.Insert(text, at, b)
			} else if r.Intn(3) == 0 {
				text = slices.Delete(text, at, at+1)
			} else {
				text[at] = b
			}
		}
		if _, ok := plainScript(string(text)); !ok {
			none++
		}
		checkScript(t, string(text))
	}
	if none < 30 || none > 2000 {
		t.Error(none)
	}
}

func TestTextsOfAnyBytes(t *testing.T) {
	r := rand.New(rand.NewSource(8))
	for _, alphabet := range []string{"\n", " \n", "0 \n", "calm \n", "\x00\t\r\n ", "meetwhnsdgivak0123456789 \n", "\n\x7f\x80\xbf\xc2\xe2\xf0\xff ", ""} {
		for range 300 {
			text := make([]byte, r.Intn([]int{3, 30, 200, 2600}[r.Intn(4)]))
			for i := range text {
				text[i] = byte(r.Intn(256))
				if alphabet != "" {
					text[i] = alphabet[r.Intn(len(alphabet))]
				}
			}
			checkScript(t, string(text))
			checkScript(t, string(text)+"\n")
		}
	}
	for one := range 256 {
		for other := range 256 {
			text := string([]byte{byte(one), byte(other)})
			checkScript(t, text)
			checkScript(t, text+"\n")
		}
	}
}

// TestShortTexts asks for all of up to five of some bytes.
func TestShortTexts(t *testing.T) {
	texts := []string{""}
	for range 5 {
		var longer []string
		for _, text := range texts {
			for _, b := range []string{"\n", " ", "0", "1", "calm", "take", "send"} {
				longer = append(longer, text+b)
			}
		}
		for _, text := range longer {
			checkScript(t, text)
			checkLast(t, "send 1\ngive 0 0\n", text)
		}
		texts = longer
	}
}

// ruinNet writes into all that the lists have room for.
func ruinNet(plan []impl.Contact, custody impl.Custody) {
	for i := range plan[:cap(plan)] {
		plan[:cap(plan)][i] = meets(-77, -77, -77, -77, -77)
	}
	ruinCustody(custody)
}

// TestNetsNewMemory asks again behind an answer that was written over.
func TestNetsNewMemory(t *testing.T) {
	for _, script := range []string{"", "calm\n", "send 0\n", scriptOf(someScript()...), scriptOf(meetLines(someLate())...), "send 2\ngive 0 0\ntake 0\ngive 1 0\ntwice 1\n"} {
		firstPlan, first, ok := impl.NetOf(script)
		wantPlan, want := slices.Clone(firstPlan), copyCustody(first)
		secondPlan, second, _ := impl.NetOf(script)
		answers := impl.RunNet(script)
		ruinNet(firstPlan, first)
		thirdPlan, third, _ := impl.NetOf(script)
		if !slices.Equal(secondPlan, wantPlan) || !sameCustody(second, want) || !ok {
			t.Errorf("%q: two answers share memory: %v, %+v", script, secondPlan, second)
		}
		if !slices.Equal(thirdPlan, wantPlan) || !sameCustody(third, want) || impl.RunNet(script) != answers {
			t.Errorf("%q: what was written over is told: %v, %+v", script, thirdPlan, third)
		}
		if x, ok := impl.NewCustody([]int{-1, 0, 0, 1}); !sameCustody(x, newCustody(-1, 0, 0, 1)) || !ok {
			t.Errorf("%q: %+v", script, x)
		}
	}
}

// TestNetsOwnLists looks at the lists of one answer, and at what lies behind their length.
func TestNetsOwnLists(t *testing.T) {
	r := rand.New(rand.NewSource(88))
	scripts := []string{"", scriptOf(someScript()...), scriptOf(append(meetLines(someLate()), "meet 3 3 3 3 3", "meet 0 1 5 10 101")...)}
	for range 100 {
		scripts = append(scripts, anyScript(r, 60))
	}
	for _, script := range scripts {
		plan, custody, ok := impl.NetOf(script)
		if !ok {
			t.Fatalf("NetOf(%q) is false", script)
		}
		for _, c := range plan[len(plan):cap(plan)] {
			if c != (impl.Contact{}) {
				t.Errorf("%q: %v is handed out behind the plan", script, c)
			}
		}
		wantOwnLists(t, script, custody)
	}
}

// TestNetsGoOn hands what NetOf answers to the functions of the other chapters: they tell what the lines behind would.
func TestNetsGoOn(t *testing.T) {
	r := rand.New(rand.NewSource(818))
	for range 200 {
		script := anyScript(r, 50)
		if len(script) > 2000 {
			continue
		}
		plan, custody, ok := impl.NetOf(script)
		if !impl.GoodPlan(plan) || !impl.GoodCustody(custody) || !ok {
			t.Fatalf("NetOf(%q) = %v, %+v, %v", script, plan, custody, ok)
		}
		x := plainNet{plan: plan, custody: custody}
		behind, want := "", ""
		for range 20 {
			line := anyLine(r, x, 100)
			behind += line + "\n"
			want += x.answer(line) + "\n"
		}
		if len(script+behind) <= 2500 && impl.RunNet(script+behind) != impl.RunNet(script)+want {
			t.Fatalf("RunNet(%q) = %q, not %q behind %q", script+behind, impl.RunNet(script+behind), want, impl.RunNet(script))
		}
	}
}
