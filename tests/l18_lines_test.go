package tests

import (
	"fmt"
	"regexp"
	"slices"
	"strconv"
	"strings"
	"testing"

	"loop.example/g00315/impl"
)

// plainNet is what the lines so far have made of the plan and of the custody.
type plainNet struct {
	plan    []impl.Contact
	custody impl.Custody
}

// plainLineForm is a word in small letters, and numbers behind it.
var plainLineForm = regexp.MustCompile(`\A([a-z]+)((?: (?:0|[1-9][0-9]{0,6}))*)\z`)

// lineKinds tells how many numbers each kind of line has at least; late alone may have more: pairs.
func lineKinds() map[string]int {
	return map[string]int{
		"meet": 5, "when": 3, "flood": 3, "send": 1, "give": 2, "take": 1, "lose": 1, "twice": 1,
		"calm": 0, "safe": 2, "sdnv": 1, "most": 3, "late": 2,
	}
}

// isLine tells a line's word and its numbers.
func isLine(line string) (string, []int, bool) {
	parts := plainLineForm.FindStringSubmatch(line)
	if parts == nil {
		return "", nil, false
	}
	var l []int
	for _, word := range strings.Fields(parts[2]) {
		n, _ := strconv.Atoi(word)
		l = append(l, n)
	}
	many, known := lineKinds()[parts[1]]
	return parts[1], l, known && hasItsNumbers(parts[1], len(l), many)
}

// hasItsNumbers tells whether so many stand behind a word that many belong to: late has one pair, or more.
func hasItsNumbers(word string, given int, many int) bool {
	return given == many || word == "late" && given > many && given%2 == 0
}

// worded is a word and numbers behind it, or no.
func worded(ok bool, word string, l ...int) string {
	if !ok {
		return "no"
	}
	return strings.TrimSuffix(word+" "+strings.Trim(fmt.Sprint(l), "[]"), " ")
}

// answer asks the functions that the document names for each kind of line.
func (x *plainNet) answer(line string) string {
	word, l, ok := isLine(line)
	if !ok {
		return "what"
	}
	switch word {
	case "meet":
		return x.meet(meets(l[0], l[1], l[2], l[3], l[4]))
	case "when":
		over, when, ok := impl.RouteTo(x.plan, l[0], l[1], l[2])
		return worded(ok, "at "+strconv.Itoa(when), over...)
	case "flood":
		nodes, ok := impl.FloodUntil(x.plan, l[0], l[1], l[2])
		return worded(ok, "has", nodes...)
	case "calm":
		after, gave, ok := impl.CalmCustody(x.custody)
		x.keep(after, ok)
		return worded(ok, "gave", gave)
	case "safe":
		is, ok := impl.SafeFor(x.custody, l[0], l[1])
		return worded(ok, map[bool]string{true: "yes", false: "not"}[is])
	case "sdnv":
		s, ok := impl.SdnvOf(l[0])
		return worded(ok, "bytes"+strings.TrimRight(" "+strings.Trim(fmt.Sprint([]byte(s)), "[]"), " "))
	case "most":
		most, ok := impl.MostIn(l[0], l[1], l[2])
		return worded(ok, "most", most)
	case "late":
		var jobs []impl.Job
		for i := 0; i < len(l); i += 2 {
			jobs = append(jobs, impl.Job{Long: l[i], Due: l[i+1]})
		}
		in, ok := impl.FewestLate(jobs)
		return worded(ok, "in", in...)
	}
	after, ok := impl.StepCustody(x.custody, stepOf(word, l))
	x.keep(after, ok)
	return worded(ok, "ok")
}

func (x *plainNet) meet(c impl.Contact) string {
	if !plainPlan(append(slices.Clone(x.plan), c)) {
		return "no"
	}
	x.plan = append(x.plan, c)
	return "ok"
}

func (x *plainNet) keep(after impl.Custody, ok bool) {
	if ok {
		x.custody = after
	}
}

func stepOf(word string, l []int) impl.CusStep {
	switch word {
	case "send":
		return sendsId(l[0])
	case "give":
		return givesHold(l[0], l[1])
	case "take":
		return takesSlip(l[0])
	case "lose":
		return losesSlip(l[0])
	}
	return doublesSlip(l[0])
}

// plainScript cuts a text into lines, if it is a script.
func plainScript(text string) ([]string, bool) {
	lines := strings.Split(text, "\n")
	last := len(lines) - 1
	if len(text) > 2500 || last > 80 || lines[last] != "" {
		return nil, false
	}
	return lines[:last], true
}

// checkScript asks RunNet and NetOf of a text, and of each of its beginnings that end with a line.
func checkScript(t *testing.T, text string) []string {
	t.Helper()
	lines, ok := plainScript(text)
	if !ok {
		wantNoScript(t, text)
		return nil
	}
	x := plainNet{custody: newCustody(-1, 0, 0, 1)}
	begun, answers := "", ""
	checkNet(t, begun, x, answers)
	for _, line := range lines {
		begun += line + "\n"
		answers += x.answer(line) + "\n"
		checkNet(t, begun, x, answers)
	}
	if got := impl.RunNet(text); got != answers {
		t.Fatalf("RunNet(%q) = %q, not %q", text, got, answers)
	}
	return strings.Split(answers, "\n")[:len(lines)]
}

func checkNet(t *testing.T, script string, x plainNet, answers string) {
	t.Helper()
	if got := impl.RunNet(script); got != answers {
		t.Fatalf("RunNet(%q) = %q, not %q", script, got, answers)
	}
	plan, custody, ok := impl.NetOf(script)
	if !slices.Equal(plan, x.plan) || !sameCustody(custody, x.custody) || !ok {
		t.Fatalf("NetOf(%q) = %v, %+v, %v, not %v, %+v", script, plan, custody, ok, x.plan, x.custody)
	}
}

func wantNoScript(t *testing.T, text string) {
	t.Helper()
	if got := impl.RunNet(text); got != "" {
		t.Fatalf("RunNet(%q) = %q where it is no script", text, got)
	}
	if plan, custody, ok := impl.NetOf(text); len(plan) != 0 || !isNoCustody(custody) || ok {
		t.Fatalf("NetOf(%q) = %v, %+v, %v where it is no script", text, plan, custody, ok)
	}
}

// scriptOf puts a byte 10 behind each line.
func scriptOf(lines ...string) string {
	script := ""
	for _, line := range lines {
		script += line + "\n"
	}
	return script
}

// wantLines asks a script whose lines are told with their answers behind: "send 1 > ok".
func wantLines(t *testing.T, told ...string) {
	t.Helper()
	var lines, want []string
	for _, both := range told {
		line, answer, _ := strings.Cut(both, " > ")
		lines, want = append(lines, line), append(want, answer)
	}
	if got := checkScript(t, scriptOf(lines...)); !slices.Equal(got, want) {
		t.Errorf("RunNet of %q = %q, not %q", lines, got, want)
	}
}

// wantUnknown asks for what, and that nothing is changed by it.
func wantUnknown(t *testing.T, line string) {
	t.Helper()
	got := checkScript(t, scriptOf("meet 0 1 0 9 1", "send 1", "give 0 0", line, "when 0 0 1", "take 0"))
	if !slices.Equal(got, []string{"ok", "ok", "ok", "what", "at 1 0", "ok"}) {
		t.Errorf("RunNet of the line %q and others = %q", line, got)
	}
}

// meetLines tell a plan by lines.
func meetLines(l []impl.Contact) []string {
	var lines []string
	for _, c := range l {
		lines = append(lines, fmt.Sprintf("meet %d %d %d %d %d", c.From, c.To, c.Start, c.End, c.Delay))
	}
	return lines
}

// lateLine tells so many jobs, each as long and due as told.
func lateLine(many int, long int, due int) string {
	return "late" + strings.Repeat(fmt.Sprintf(" %d %d", long, due), many)
}

func TestScriptConstants(t *testing.T) {
	if impl.MaxScript != 2500 || impl.MaxLines != 80 {
		t.Error(impl.MaxScript, impl.MaxLines)
	}
}

func TestMeetLines(t *testing.T) {
	wantLines(t,
		"meet 0 1 5 10 2 > ok", "meet 1 2 0 9 1 > ok", "meet 0 1 5 10 2 > ok", "meet 7 0 0 1000 100 > ok", "meet 0 7 999 1000 0 > ok",
		"meet 1 1 2 3 4 > no", "meet 8 1 5 10 2 > no", "meet 0 8 5 10 2 > no", "meet 0 1 10 10 2 > no", "meet 0 1 11 10 2 > no",
		"meet 0 1 5 1001 2 > no", "meet 0 1 1000 1000 2 > no", "meet 0 1 5 10 101 > no", "meet 0 1 0 0 0 > no", "meet 0 0 0 0 0 > no",
		"meet 9999999 1 5 10 2 > no", "meet 0 9999999 5 10 2 > no", "meet 0 1 9999999 10 2 > no", "meet 0 1 5 9999999 2 > no", "meet 0 1 5 10 9999999 > no",
		"meet 2 3 0 1 0 > ok",
	)
	want := []impl.Contact{
		meets(0, 1, 5, 10, 2), meets(1, 2, 0, 9, 1), meets(0, 1, 5, 10, 2), meets(7, 0, 0, 1000, 100), meets(0, 7, 999, 1000, 0), meets(2, 3, 0, 1, 0),
	}
	script := scriptOf(append(meetLines(want[:5]), "meet 1 1 2 3 4", "meet 0 1 5 1001 2", meetLines(want[5:])[0])...)
	if plan, _, ok := impl.NetOf(script); !slices.Equal(plan, want) || !ok {
		t.Errorf("NetOf(%q) = %v, %v, not %v", script, plan, ok, want)
	}
}

// TestMeetLinesAsThePlanWas: what is not good then leaves no gap in the numbers.
func TestMeetLinesAsThePlanWas(t *testing.T) {
	wantLines(t,
		"meet 0 0 0 9 0 > no", "meet 0 1 0 9 1 > ok", "when 0 0 1 > at 1 0", "when 0 0 2 > no",
		"meet 1 2 0 1001 1 > no", "when 0 0 2 > no", "flood 0 0 9 > has 0 1",
		"meet 1 2 0 9 101 > no", "meet 1 2 0 9 2 > ok", "when 0 0 2 > at 3 0 1", "flood 0 0 9 > has 0 1 2",
		"meet 1 2 9 9 0 > no", "meet 0 2 0 9 0 > ok", "when 0 0 2 > at 0 2", "when 0 0 1 > at 1 0",
	)
}

func TestMeetLinesUpToMaxContacts(t *testing.T) {
	lines := slices.Repeat([]string{"meet 0 1 5 10 2 > ok"}, 18)
	wantLines(t, append(lines,
		"meet 1 2 0 1000 3 > ok", "meet 0 1 10 10 2 > no", "meet 2 3 0 1000 4 > ok", "meet 2 4 0 1000 5 > no", "meet 0 1 5 10 2 > no",
		"when 0 0 3 > at 14 0 18 19", "when 2 0 4 > no", "flood 0 0 1000 > has 0 1 2 3",
	)...)
}

func TestWhenLines(t *testing.T) {
	lines := []string{"when 0 0 2 > no", "when 3 7 3 > at 7", "when 0 0 0 > at 0", "when 7 1000 7 > at 1000"}
	for _, line := range meetLines(someLate()) {
		lines = append(lines, line+" > ok")
	}
	wantLines(t, append(lines,
		"when 0 0 1 > at 7 0", "when 0 0 2 > at 21 0 2", "when 0 9 2 > at 21 0 2", "when 0 10 2 > at 40 3", "when 0 50 2 > no",
		"when 0 0 3 > at 121 0 2 5", "when 2 0 4 > at 100 5 6", "when 0 0 4 > no", "when 4 999 3 > at 1002 7", "when 4 1000 3 > no",
		"when 0 0 0 > at 0", "when 0 1000 0 > at 1000", "when 0 1001 0 > no", "when 8 0 0 > no", "when 0 0 8 > no", "when 8 0 8 > no",
		"when 9999999 0 0 > no", "when 0 9999999 0 > no", "when 0 0 9999999 > no",
	)...)
}

func TestFloodLines(t *testing.T) {
	lines := []string{"flood 0 0 1000 > has 0", "flood 7 1000 1000 > has 7", "flood 3 8 7 > has"}
	for _, line := range meetLines(someLate()) {
		lines = append(lines, line+" > ok")
	}
	wantLines(t, append(lines,
		"flood 0 0 0 > has 0", "flood 0 0 6 > has 0", "flood 0 0 7 > has 0 1", "flood 0 0 20 > has 0 1", "flood 0 0 21 > has 0 1 2",
		"flood 0 0 120 > has 0 1 2", "flood 0 0 121 > has 0 1 2 3", "flood 0 10 1000 > has 0 2", "flood 2 0 1000 > has 0 2 3 4",
		"flood 0 9 8 > has", "flood 0 1000 0 > has", "flood 0 1000 1000 > has 0",
		"flood 8 0 0 > no", "flood 0 1001 0 > no", "flood 0 0 1001 > no", "flood 0 1001 1001 > no",
		"flood 9999999 0 0 > no", "flood 0 9999999 0 > no", "flood 0 0 9999999 > no",
	)...)
}

func TestRoutesOfAllByLines(t *testing.T) {
	for from := range 9 {
		lines := meetLines(someLate())
		for to := range 9 {
			for _, at := range []int{0, 9, 10, 40} {
				lines = append(lines, fmt.Sprintf("when %d %d %d", from, at, to))
			}
			lines = append(lines, fmt.Sprintf("flood %d %d %d", from, 3*to, 20*to))
		}
		checkScript(t, scriptOf(lines...))
	}
}

func TestCustodyLines(t *testing.T) {
	wantLines(t,
		"take 0 > no", "lose 0 > no", "twice 0 > no", "give 0 0 > no", "send 6 > no", "send 9999999 > no",
		"send 5 > ok", "send 5 > no", "send 0 > ok", "give 0 4 > no", "give 1 0 > no", "give 4 0 > no", "give 9999999 0 > no", "give 0 9999999 > no",
		"give 0 3 > ok", "take 1 > no", "take 9999999 > no", "lose 1 > no", "twice 1 > no", "twice 9999999 > no",
		"twice 0 > ok", "lose 1 > ok", "lose 1 > no", "take 0 > ok",
		"safe 2 5 > yes", "safe 1 5 > yes", "safe 3 0 > yes", "safe 3 1 > not",
		"twice 0 > ok", "take 1 > ok", "take 0 > ok", "take 0 > no", "give 0 3 > no", "give 0 2 > ok", "take 0 > ok", "give 1 0 > ok", "send 3 > ok",
	)
	script := scriptOf("send 5", "send 5", "send 0", "give 0 3", "take 0", "give 0 2", "twice 1", "take 1", "give 1 0", "give 1 1", "lose 0")
	want := impl.Custody{
		Up: []int{-1, 0, 0, 1},
		Keepers: []impl.Keeper{
			{Seen: []int{0, 5}, Told: []int{5, 0}, Holds: []impl.Hold{{Id: 0, Child: 1}, {Id: 0, Child: 2}, {Id: 5, Child: 1}, {Id: 5, Child: 2}}},
			{Seen: []int{5}, Told: []int{5}, Holds: []impl.Hold{{Id: 5, Child: 3}}},
			{Seen: []int{5}, Told: []int{5}},
			{},
		},
		Slips: []impl.Slip{giveOf(0, 1, 5), ackOf(1, 0, 5), giveOf(1, 3, 5)},
		Sent:  []int{5, 0},
	}
	// The slip that is lost is the first one: the ack of node 2.
	if _, custody, ok := impl.NetOf(script); !sameCustody(custody, want) || !ok {
		t.Errorf("NetOf(%q) = %+v, %v, not %+v", script, custody, ok, want)
	}
}

func TestSendLinesOfAllIds(t *testing.T) {
	wantLines(t,
		"send 3 > ok", "send 0 > ok", "send 5 > ok", "send 1 > ok", "send 4 > ok", "send 2 > ok",
		"send 0 > no", "send 1 > no", "send 2 > no", "send 3 > no", "send 4 > no", "send 5 > no", "send 6 > no", "send 7 > no",
		"give 0 11 > ok", "give 0 12 > no", "calm > gave 17",
	)
}

func TestCustodyLinesUpToMaxSlips(t *testing.T) {
	lines := append([]string{"send 1 > ok"}, slices.Repeat([]string{"give 0 0 > ok"}, 29)...)
	wantLines(t, append(lines,
		"twice 28 > ok", "twice 0 > no", "give 0 0 > no", "take 29 > ok", "give 0 1 > no", "lose 29 > ok", "give 0 1 > ok", "twice 29 > no", "lose 30 > no",
		"calm > gave 1", "take 0 > no", "give 0 0 > no", "give 1 0 > no",
	)...)
}

func TestCalmLines(t *testing.T) {
	wantLines(t,
		"calm > gave 0", "calm > gave 0", "send 1 > ok", "calm > gave 3", "calm > gave 0", "safe 3 1 > yes", "give 0 0 > no", "send 1 > no",
		"send 2 > ok", "give 0 0 > ok", "lose 0 > ok", "send 0 > ok", "calm > gave 6",
		"send 3 > ok", "give 0 1 > ok", "twice 0 > ok", "take 0 > ok", "calm > gave 2", "take 0 > no", "safe 2 3 > yes",
		"send 4 > ok", "give 0 0 > ok", "take 0 > ok", "lose 0 > ok", "calm > gave 3",
	)
	_, custody, ok := impl.NetOf("send 2\ngive 0 1\ntwice 0\nsend 0\ncalm\nsend 1\ngive 0 1\n")
	want := impl.Custody{
		Up: []int{-1, 0, 0, 1},
		Keepers: []impl.Keeper{
			{Seen: []int{0, 1, 2}, Told: []int{2, 0, 1}, Holds: []impl.Hold{{Id: 1, Child: 1}, {Id: 1, Child: 2}}},
			{Seen: []int{0, 2}, Told: []int{0, 2}}, {Seen: []int{0, 2}, Told: []int{2, 0}}, {Seen: []int{0, 2}, Told: []int{0, 2}},
		},
		Slips: []impl.Slip{giveOf(0, 2, 1)},
		Sent:  []int{2, 0, 1},
	}
	if !sameCustody(custody, want) || !ok {
		t.Errorf("%+v, %v, not %+v", custody, ok, want)
	}
}

func TestSafeLines(t *testing.T) {
	wantLines(t,
		"safe 0 0 > not", "safe 3 5 > not", "safe 4 0 > no", "safe 0 6 > no", "safe 4 6 > no", "safe 9999999 0 > no", "safe 0 9999999 > no",
		"send 0 > ok", "safe 0 0 > yes", "safe 1 0 > yes", "safe 2 0 > yes", "safe 3 0 > yes", "safe 3 1 > not", "safe 0 1 > not",
		"send 5 > ok", "safe 3 5 > yes", "calm > gave 6", "safe 0 5 > yes", "safe 1 5 > yes", "safe 2 5 > yes", "safe 3 5 > yes", "safe 3 4 > not",
	)
}

func TestSdnvLines(t *testing.T) {
	wantLines(t,
		"sdnv 0 > bytes 0", "sdnv 1 > bytes 1", "sdnv 10 > bytes 10", "sdnv 127 > bytes 127", "sdnv 128 > bytes 129 0", "sdnv 300 > bytes 130 44",
		"sdnv 16383 > bytes 255 127", "sdnv 16384 > bytes 129 128 0", "sdnv 2097151 > bytes 255 255 127", "sdnv 2097152 > bytes 129 128 128 0",
		"sdnv 9999999 > bytes 132 226 172 127", "sdnv 1000000 > bytes 189 132 64",
	)
	for first := 0; first < 10000000; first = first*3 + 1 {
		lines := []string{}
		for n := first; n < first+70; n++ {
			lines = append(lines, "sdnv "+strconv.Itoa(n))
		}
		checkScript(t, scriptOf(lines...))
	}
}

func TestMostLines(t *testing.T) {
	wantLines(t,
		"most 5 2 12 > most 4", "most 5 2 0 > most 2", "most 1 20 1000000 > most 1000020", "most 50 1 49 > most 1", "most 50 1 50 > most 2", "most 1 1 0 > most 1",
		"most 0 2 12 > no", "most 51 2 12 > no", "most 5 0 12 > no", "most 5 21 12 > no", "most 5 2 1000001 > no",
		"most 9999999 2 12 > no", "most 5 9999999 12 > no", "most 5 2 9999999 > no", "most 0 0 0 > no", "most 50 20 0 > most 20",
	)
}

func TestLateLines(t *testing.T) {
	wantLines(t,
		"late 3 4 2 3 5 9 4 5 > in 1 2", "late 1 1 > in 0", "late 2 1 > in", "late 3 4 > in 0", "late 100 1000 100 99 > in 0",
		"late > what", "late  > what", "late 3 > what", "late 3 4 2 > what", "late 3 4 2 3 5 > what", "late 0 > what",
		"late 0 4 > no", "late 101 500 > no", "late 3 0 > no", "late 3 1001 > no", "late 9999999 4 > no", "late 3 9999999 > no", "late 3 4 0 0 > no",
		lateLine(9, 2, 18)+" > in 0 1 2 3 4 5 6 7 8", lateLine(10, 2, 20)+" > in 0 1 2 3 4 5 6 7 8 9", lateLine(10, 2, 19)+" > in 0 1 2 3 4 5 6 7 8",
		lateLine(11, 2, 22)+" > no", lateLine(100, 2, 22)+" > no", lateLine(10, 2, 20)+" 2 > what", lateLine(9, 2, 20)+" 2 > what", lateLine(100, 2, 22)+" 2 > what",
	)
}

// TestOneWordTooManyAndTooFew asks of each kind of line as many numbers as there are, and all other counts.
func TestOneWordTooManyAndTooFew(t *testing.T) {
	for word, many := range lineKinds() {
		for given := range 12 {
			for _, number := range []string{"0", "1", "5", "9999999"} {
				line := word + strings.Repeat(" "+number, given)
				if !hasItsNumbers(word, given, many) {
					wantUnknown(t, line)
				} else if got := checkScript(t, line+"\n"); got[0] == "what" {
					t.Errorf("RunNet(%q) = %q", line+"\n", got)
				}
			}
		}
	}
}

func TestWordsThatAreNone(t *testing.T) {
	for word, many := range lineKinds() {
		numbers := strings.Repeat(" 1", many)
		for _, other := range []string{
			strings.ToUpper(word), strings.ToUpper(word[:1]) + word[1:], word[:len(word)-1], word[1:], word + word, word + "s", word + "1", word + "=",
			"x" + word, word + ":", word + ",", word + "\t", "\t" + word, word + "\r", word + "\x00", "\x00" + word, word + "\xc3", "\ufeff" + word, word + "\u00a0",
			word[:1] + "\u0301" + word[1:], word[:2] + "\xff" + word[2:], "", "-", "1", "+" + word, "#" + word, "at", "ok", "no", "what", "has", "in", "net", "fly",
		} {
			wantUnknown(t, other+numbers)
			wantUnknown(t, other+numbers+" 1")
		}
		for _, line := range []string{
			" " + word + numbers, word + numbers + " ", "  " + word + numbers, word + numbers + "  ", word + " " + numbers, word + "\t" + strings.TrimPrefix(numbers, " "),
			word + numbers + "\r", word + numbers + "\t", word + numbers + "\x00", word + numbers + " x", word + numbers + ".", word + numbers + " #", word + numbers + "\u00a0",
			word + numbers + " " + word, strings.TrimPrefix(numbers, " ") + " " + word, word + "\x00" + numbers, word + "\r" + numbers, word + strings.ReplaceAll(numbers, " ", "  "),
			word + strings.ReplaceAll(numbers, " ", ""), word + strings.ReplaceAll(numbers, " ", ",") + ",", word + "\u00a0" + numbers, word + numbers + "\xff", word + numbers + "\u0661",
		} {
			if line != word+numbers {
				wantUnknown(t, line)
			}
		}
	}
	for _, line := range []string{"", " ", "  ", "\t", "\r", "\x00", "\xff", "0", "0 0", "meet", "meet0 1 5 10 2", "calm.", "calm 0", "late", "late ", "late in", "late 3 four"} {
		wantUnknown(t, line)
	}
}

// TestNumbersInTheirForm puts words that are no numbers at each place of a number.
func TestNumbersInTheirForm(t *testing.T) {
	for word, many := range lineKinds() {
		for place := range many {
			lineWith := func(number string) string {
				numbers := slices.Repeat([]string{"1"}, many)
				numbers[place] = number
				return word + " " + strings.Join(numbers, " ")
			}
			for _, number := range []string{"0", "7", "10", "99", "1000000", "9999999", "1234567"} {
				if got := checkScript(t, lineWith(number)+"\n"); got[0] == "what" {
					t.Errorf("RunNet(%q) = %q", lineWith(number)+"\n", got)
				}
			}
			for _, number := range []string{
				"", "00", "01", "0000000", "0000001", "007", "00000001", "10000000", "12345678", "99999999", "9223372036854775807", "9223372036854775808", "18446744073709551617",
				strings.Repeat("1", 300), strings.Repeat("0", 300), "-1", "-0", "+1", "--1", "-", "+", "1-", "1+", "1.0", ".5", "1.", "1,", "1e3", "0x1", "1_000", "0b1", "0o7",
				"a", "1a", "a1", "1a1", "one", "x", "1\x00", "\x001", "1\t", "\t1", "1\r", "\r1", "1\x801", "\xff", "1\xff", "\xc3\xa9", "\u0661", "1\u0661", "\u00b2", "\uff11",
				"/", ":", "1/", "1:", "\u0660", "\U0001d7cf", "\u3007", "\xb1", "\x31\xb1", "\xf4\x90\x80\x80", "\xed\xa0\x80",
			} {
				wantUnknown(t, lineWith(number))
			}
		}
	}
}

func TestScriptsWithoutLines(t *testing.T) {
	if got := impl.RunNet(""); got != "" {
		t.Errorf("%q", got)
	}
	plan, custody, ok := impl.NetOf("")
	if len(plan) != 0 || !sameCustody(custody, newCustody(-1, 0, 0, 1)) || !ok {
		t.Error(plan, custody, ok)
	}
	wantLines(t)
	wantLines(t, " > what")
	if got := impl.RunNet("\n"); got != "what\n" {
		t.Errorf("%q", got)
	}
	wantLines(t, " > what", "calm > gave 0", " > what", " > what")
}

// TestLastLineWithoutAnEnd: each line has a byte 10 behind it, or it is no script.
func TestLastLineWithoutAnEnd(t *testing.T) {
	for _, text := range []string{
		"calm", "c", " ", "\r", "x", "calm\r", "send 1\ncalm", "send 1\n ", "\n\nx", "send 1\r\ncalm\r", "send 1\ncalm\n0", "calm\x00", "calm\x0b", "\xff", "calm\u0085", "calm\u2028",
	} {
		wantNoScript(t, text)
		if lines := checkScript(t, text+"\n"); len(lines) != strings.Count(text, "\n")+1 {
			t.Errorf("%q: %q", text, lines)
		}
	}
}

func TestScriptsOfMaxLines(t *testing.T) {
	for _, line := range []string{"", "calm", "x", "send 1", "meet 0 1 5 10 2", "when 3 7 3", "sdnv 9999999", lateLine(2, 3, 4)} {
		for _, many := range []int{1, 79, 80} {
			if got := checkScript(t, strings.Repeat(line+"\n", many)); len(got) != many {
				t.Errorf("%q, %d times: %q", line, many, got)
			}
		}
		for _, many := range []int{81, 82, 160} {
			wantNoScript(t, strings.Repeat(line+"\n", many))
		}
		wantNoScript(t, strings.Repeat(line+"\n", 80)+"x")
		wantNoScript(t, strings.Repeat(line+"\n", 79)+"x")
	}
	wantNoScript(t, strings.Repeat("\n", 2500))
	wantNoScript(t, strings.Repeat("\n", 2501))
}

// longScript is of so many bytes: lines that are known, and one that fills up what is left.
func longScript(bytes int) string {
	script := scriptOf("meet 0 1 5 10 2", "send 1", "calm", lateLine(40, 3, 4))
	return script + strings.Repeat("x", bytes-len(script)-len("\nwhen 0 0 1\n")) + "\nwhen 0 0 1\n"
}

func TestScriptsOfMaxBytes(t *testing.T) {
	want := []string{"ok", "ok", "gave 3", "no", "what", "at 7 0"}
	for _, many := range []int{1000, 2499, 2500} {
		if got := checkScript(t, longScript(many)); !slices.Equal(got, want) || len(longScript(many)) != many {
			t.Errorf("%d bytes: %q", many, got)
		}
	}
	for _, many := range []int{2501, 2502, 5000, 100000} {
		wantNoScript(t, longScript(many))
	}
	for _, bytes := range []string{"x", " ", "0", "\xff", "\x00"} {
		if got := checkScript(t, strings.Repeat(bytes, 2499)+"\n"); !slices.Equal(got, []string{"what"}) {
			t.Errorf("2499 bytes %q and a byte 10: %q", bytes, got)
		}
		wantNoScript(t, strings.Repeat(bytes, 2500)+"\n")
		wantNoScript(t, strings.Repeat(bytes, 2500))
	}
	row := strings.Repeat(" 1", 1247)
	wantLines(t, "late"+row[2:]+" > no")
	wantLines(t, "late"+row+" > what")
	wantLines(t, "late"+row+"  > what")
	wantNoScript(t, "late"+row+"  \n")
	wantNoScript(t, strings.Repeat("\n", 1<<20))
	wantNoScript(t, strings.Repeat("calm\n", 1<<18))
}
