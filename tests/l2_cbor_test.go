package tests

import (
	"math"
	"math/rand"
	"slices"
	"strings"
	"testing"

	"loop.example/g00315/impl"
)

func num(n int) impl.Item              { return impl.Item{Kind: impl.ItemNumber, Num: n} }
func raw(s string) impl.Item           { return impl.Item{Kind: impl.ItemBytes, Text: s} }
func text(s string) impl.Item          { return impl.Item{Kind: impl.ItemText, Text: s} }
func list(many int) impl.Item          { return impl.Item{Kind: impl.ItemList, Many: many} }
func items(l ...impl.Item) []impl.Item { return l }

// headEdges are the numbers at which heads grow, with their neighbours.
func headEdges() []int {
	return []int{
		0, 1, 22, 23, 24, 25, 127, 128, 254, 255, 256, 257, 32767, 32768, 65534, 65535, 65536, 65537,
		1<<24 - 1, 1 << 24, impl.MaxValue - 1, impl.MaxValue,
	}
}

// plainHead picks the count of bytes first and fills them from the last one on, unlike the program.
func plainHead(major int, n int) string {
	many, mark := 0, n
	switch {
	case n > 65535:
		many, mark = 4, 26
	case n > 255:
		many, mark = 2, 25
	case n > 23:
		many, mark = 1, 24
	}
	b := make([]byte, 1+many)
	b[0] = byte(32*major + mark)
	for i := many; i > 0; i-- {
		b[i] = byte(n % 256)
		n /= 256
	}
	return string(b)
}

// plainItemBytes are an item's own, without those that lie in it.
func plainItemBytes(x impl.Item) string {
	switch x.Kind {
	case impl.ItemNumber:
		return plainHead(0, x.Num)
	case impl.ItemBytes, impl.ItemText:
		return plainHead(x.Kind, len(x.Text)) + x.Text // the majors of both are their kinds
	}
	return plainHead(4, x.Many)
}

// plainGoodItem asks for nothing but the item's own fields.
func plainGoodItem(x impl.Item) bool {
	bare := x
	switch x.Kind {
	case impl.ItemNumber:
		bare.Num = 0
	case impl.ItemBytes, impl.ItemText:
		bare.Text = ""
	case impl.ItemList:
		bare.Many = 0
	default:
		return false
	}
	if bare != (impl.Item{Kind: x.Kind}) || x.Num < 0 || x.Num > impl.MaxValue || len(x.Text) > impl.MaxString || x.Many < 0 {
		return false
	}
	return x.Kind != impl.ItemText || strings.IndexFunc(x.Text, func(r rune) bool { return r < 32 || r > 126 }) < 0
}

// plainItems goes over the items once, with a row of how many are still owed, a list each, and no tree.
func plainItems(l []impl.Item) (string, int, bool) {
	s, deepest := "", 0
	var owed []int
	for i, x := range l {
		if !plainGoodItem(x) || i > 0 && len(owed) == 0 {
			return "", 0, false
		}
		if i > 0 {
			owed[len(owed)-1]--
		}
		if x.Kind == impl.ItemList {
			owed = append(owed, x.Many)
			deepest = max(deepest, len(owed)) // those that owe nothing stay until what lies in them ends
		}
		s += plainItemBytes(x)
		for len(owed) > 0 && owed[len(owed)-1] == 0 {
			owed = owed[:len(owed)-1]
		}
	}
	if len(l) == 0 || len(l) > impl.MaxItems || len(owed) > 0 || deepest > impl.MaxDeep || len(s) > impl.MaxBytes {
		return "", 0, false
	}
	return s, deepest, true
}

// checkItems asks GoodItems, ItemsBytes, DeepOf and ReadItems for one and the same.
func checkItems(t *testing.T, l []impl.Item) bool {
	t.Helper()
	want, deep, good := plainItems(l)
	was := slices.Clone(l)
	if ok := impl.GoodItems(l); ok != good {
		t.Fatalf("GoodItems(%v) = %v", l, ok)
	}
	if s, ok := impl.ItemsBytes(l); s != want || ok != good {
		t.Fatalf("ItemsBytes(%v) = %x, %v, not %x, %v", l, s, ok, want, good)
	}
	if d, ok := impl.DeepOf(l); d != deep || ok != good {
		t.Fatalf("DeepOf(%v) = %d, %v, not %d, %v", l, d, ok, deep, good)
	}
	if !slices.Equal(l, was) {
		t.Fatalf("written into: %v, once %v", l, was)
	}
	if !good {
		return false
	}
	if back, ok := impl.ReadItems(want); !slices.Equal(back, l) || !ok {
		t.Fatalf("ReadItems(%x) = %v, %v, not %v", want, back, ok, l)
	}
	return true
}

func wantGood(t *testing.T, what string, l []impl.Item) {
	t.Helper()
	if !checkItems(t, l) {
		t.Errorf("%s is no value", what)
	}
}

func wantBad(t *testing.T, what string, l []impl.Item) {
	t.Helper()
	if checkItems(t, l) {
		t.Errorf("%s is a value", what)
	}
}

// wantUnread asks for the zero answer.
func wantUnread(t *testing.T, what string, s string) {
	t.Helper()
	if l, ok := impl.ReadItems(s); len(l) != 0 || ok {
		t.Errorf("%s: ReadItems(%x) = %v, %v", what, s, l, ok)
	}
}

// someValue is a value of at most many items, no deeper than deep lists.
func someValue(r *rand.Rand, many int, deep int) []impl.Item {
	edges := headEdges()
	switch r.Intn(6) {
	case 0:
		return items(num(edges[r.Intn(len(edges))]))
	case 1:
		return items(num(r.Intn(impl.MaxValue + 1)))
	case 2:
		return items(raw(mixedBytes(r.Intn(30))))
	case 3:
		b := make([]byte, r.Intn(30))
		for i := range b {
			b[i] = byte(32 + r.Intn(95))
		}
		return items(text(string(b)))
	}
	if deep == 0 {
		return items(num(r.Intn(300)))
	}
	l := items(list(0))
	for range r.Intn(5) {
		v := someValue(r, many-len(l), deep-1)
		if len(l)+len(v) > many {
			break
		}
		l = append(l, v...)
		l[0].Many++
	}
	return l
}

func TestItemsKnown(t *testing.T) {
	for _, c := range []struct {
		l    []impl.Item
		s    string
		deep int
	}{
		{items(num(0)), "\x00", 0}, {items(num(1)), "\x01", 0}, {items(num(10)), "\x0a", 0}, // RFC 8949, appendix A
		{items(num(23)), "\x17", 0}, {items(num(24)), "\x18\x18", 0}, {items(num(25)), "\x18\x19", 0},
		{items(num(100)), "\x18\x64", 0}, {items(num(1000)), "\x19\x03\xe8", 0},
		{items(num(1000000)), "\x1a\x00\x0f\x42\x40", 0},
		{items(raw("")), "\x40", 0}, {items(raw("\x01\x02\x03\x04")), "\x44\x01\x02\x03\x04", 0},
		{items(text("")), "\x60", 0}, {items(text("a")), "\x61a", 0}, {items(text("IETF")), "\x64IETF", 0},
		{items(text("\"\\")), "\x62\"\\", 0},
		{items(list(0)), "\x80", 1}, {items(list(3), num(1), num(2), num(3)), "\x83\x01\x02\x03", 1},
		{items(list(3), num(1), list(2), num(2), num(3), list(2), num(4), num(5)), "\x83\x01\x82\x02\x03\x82\x04\x05", 2},
		{items(num(255)), "\x18\xff", 0}, {items(num(256)), "\x19\x01\x00", 0}, {items(num(65535)), "\x19\xff\xff", 0},
		{items(num(65536)), "\x1a\x00\x01\x00\x00", 0}, {items(num(impl.MaxValue)), "\x1a\x3b\x9a\xca\x00", 0},
		{items(list(2), list(1), list(0), list(0)), "\x82\x81\x80\x80", 3},
		{items(list(2), list(0), list(1), list(1), raw("\xff")), "\x82\x80\x81\x81\x41\xff", 3},
		{items(list(2), num(500), text("ab")), "\x82\x19\x01\xf4\x62ab", 1},
	} {
		if s, ok := impl.ItemsBytes(c.l); s != c.s || !ok {
			t.Errorf("ItemsBytes(%v) = %x, %v, not %x", c.l, s, ok, c.s)
		}
		if l, ok := impl.ReadItems(c.s); !slices.Equal(l, c.l) || !ok {
			t.Errorf("ReadItems(%x) = %v, %v, not %v", c.s, l, ok, c.l)
		}
		if d, ok := impl.DeepOf(c.l); d != c.deep || !ok {
			t.Errorf("DeepOf(%v) = %d, %v, not %d", c.l, d, ok, c.deep)
		}
		if !impl.GoodItems(c.l) {
			t.Errorf("GoodItems(%v) is false", c.l)
		}
	}
}

func TestItemsThereAndBack(t *testing.T) {
	r := rand.New(rand.NewSource(3))
	good, greatest := 0, 0
	for range 40000 {
		l := someValue(r, impl.MaxItems+3, impl.MaxDeep+1)
		if checkItems(t, l) {
			good++
			greatest = max(greatest, len(l))
		}
	}
	if good < 20000 || greatest < 25 {
		t.Errorf("only %d values, the greatest of %d items", good, greatest)
	}
}

func TestItemsAllSmall(t *testing.T) {
	some := items(
		num(7), raw("x"), text("y"), list(0), list(1), list(2), list(3), list(-1), list(math.MaxInt), list(math.MinInt),
		num(-1), impl.Item{}, impl.Item{Kind: impl.ItemList, Num: 1},
	)
	var l []impl.Item
	var grow func()
	grow = func() {
		checkItems(t, l)
		if len(l) == 4 {
			return
		}
		for _, x := range some {
			l = append(l, x)
			grow()
			l = l[:len(l)-1]
		}
	}
	grow()
}

func TestItemsNumbers(t *testing.T) {
	for _, n := range append(headEdges(), edgeNumbers()...) {
		wantGood(t, "a number", items(num(n)))
		wantGood(t, "a number in a list", items(list(2), num(0), num(n)))
		if x, ok := impl.NumberItem(n); x != num(n) || !ok {
			t.Errorf("NumberItem(%d) = %v, %v", n, x, ok)
		}
	}
	for _, n := range wrongNumbers() {
		wantBad(t, "a wrong number", items(num(n)))
		wantBad(t, "a wrong number in a list", items(list(2), num(0), num(n)))
		if x, ok := impl.NumberItem(n); x != (impl.Item{}) || ok {
			t.Errorf("NumberItem(%d) = %v, %v", n, x, ok)
		}
	}
}

func TestItemsStrings(t *testing.T) {
	for many := range impl.MaxString + 3 {
		plain := strings.Repeat(" ~a0", 16)[:many]
		for _, l := range [][]impl.Item{
			items(raw(mixedBytes(many))), items(text(plain)), items(list(2), raw(plain), text(plain)),
		} {
			if good := checkItems(t, l); good != (many <= impl.MaxString) {
				t.Errorf("%d bytes: %v", many, good)
			}
		}
		wantGood(t, "a number", items(num(many)))
	}
	long := strings.Repeat("a", 100000)
	wantBad(t, "far too many bytes", items(raw(long)))
	wantBad(t, "far too long a text", items(text(long)))
}

func TestItemsBytesOfTexts(t *testing.T) {
	for b := range 256 {
		one := string([]byte{byte(b)})
		for _, s := range []string{one, one + "ab", "a" + one + "b", "ab" + one, strings.Repeat("a", impl.MaxString-1) + one} {
			wantGood(t, "bytes of any kind", items(raw(s)))
			plain := b >= 32 && b <= 126
			if good := checkItems(t, items(text(s))); good != plain {
				t.Errorf("byte %d in a text: %v", b, good)
			}
			if l, ok := impl.ReadItems(plainHead(3, len(s)) + s); ok != plain || ok != (len(l) == 1) {
				t.Errorf("byte %d in a text that is read: %v, %v", b, l, ok)
			}
		}
	}
}

func TestItemsNoneAndTooMany(t *testing.T) {
	wantBad(t, "nil", nil)
	wantBad(t, "no item", []impl.Item{})
	for many := range impl.MaxItems + 5 {
		l := append(items(list(many)), slices.Repeat(items(num(5)), many)...)
		if good := checkItems(t, l); good != (many < impl.MaxItems) {
			t.Errorf("a list of %d numbers: %v", many, good)
		}
		if back, ok := impl.ReadItems(plainHead(4, many) + strings.Repeat("\x05", many)); ok != (many < impl.MaxItems) || !ok && len(back) != 0 {
			t.Errorf("a list of %d numbers read: %v, %v", many, back, ok)
		}
	}
	wantBad(t, "a thousand items", append(items(list(999)), slices.Repeat(items(num(5)), 999)...))
	wantUnread(t, "as many as there can be", plainHead(4, impl.MaxBytes-3)+strings.Repeat("\x05", impl.MaxBytes-3))
}

func TestItemsMoreOrLessThanOne(t *testing.T) {
	for _, x := range items(num(1), raw("x"), text("y"), list(0)) {
		for _, y := range items(num(1), raw("x"), text("y"), list(0)) {
			wantBad(t, "two values", items(x, y))
			wantBad(t, "a list and one behind it", items(list(1), x, y))
			wantBad(t, "a list that wants one more", items(list(3), x, y))
			wantGood(t, "a list of both", items(list(2), x, y))
			wantUnread(t, "two values", plainItemBytes(x)+plainItemBytes(y))
			wantUnread(t, "a list and one behind it", "\x81"+plainItemBytes(x)+plainItemBytes(y))
			wantUnread(t, "a list that wants one more", "\x83"+plainItemBytes(x)+plainItemBytes(y))
		}
		for _, many := range []int{-1, -2, math.MinInt, 2, 3, impl.MaxItems, 1 << 32, impl.MaxValue, math.MaxInt} {
			wantBad(t, "a Many that does not fit", items(list(many), x))
			wantBad(t, "such a Many within a list", items(list(2), x, list(many), x))
		}
	}
	for _, many := range []int{2, 23, 24, 255, 256, 65536, impl.MaxValue} {
		wantUnread(t, "a list that wants more", plainHead(4, many)+"\x05")
	}
}

func TestItemsFieldsThatAreNotTheirs(t *testing.T) {
	for _, x := range []impl.Item{
		{Kind: impl.ItemNumber, Num: 1, Text: "a"}, {Kind: impl.ItemNumber, Num: 1, Many: 1}, {Kind: impl.ItemNumber, Many: -1},
		{Kind: impl.ItemBytes, Num: 1}, {Kind: impl.ItemBytes, Num: -1, Text: "a"}, {Kind: impl.ItemBytes, Text: "a", Many: 1},
		{Kind: impl.ItemText, Num: 1}, {Kind: impl.ItemText, Num: 1, Text: "a"}, {Kind: impl.ItemText, Text: "a", Many: -1},
		{Kind: impl.ItemList, Num: 1}, {Kind: impl.ItemList, Text: "a"}, {Kind: impl.ItemList, Num: -1}, {Kind: impl.ItemList, Text: "\x00"},
	} {
		wantBad(t, "a field too many", items(x))
		wantBad(t, "a field too many in a list", items(list(3), num(1), x, num(1)))
	}
	for _, kind := range []int{0, 5, 6, 7, -1, -4, 1 << 32, 1<<32 + 1, math.MinInt, math.MaxInt} {
		wantBad(t, "a kind that is none", items(impl.Item{Kind: kind}))
		wantBad(t, "a kind that is none in a list", items(list(1), impl.Item{Kind: kind}))
	}
}

func TestItemsDeep(t *testing.T) {
	for deep := range impl.MaxDeep + 4 {
		fits := deep <= impl.MaxDeep
		for _, end := range [][]impl.Item{items(num(9)), items(text("z"))} {
			l := append(slices.Repeat(items(list(1)), deep), end...)
			if good := checkItems(t, l); good != fits {
				t.Errorf("%d lists: %v", deep, good)
			}
			s := strings.Repeat("\x81", deep) + plainItemBytes(end[0])
			if back, ok := impl.ReadItems(s); ok != fits || ok != slices.Equal(back, l) || !ok && len(back) != 0 {
				t.Errorf("%d lists read: %v, %v", deep, back, ok)
			}
		}
		empty := nested(deep)
		if d, ok := impl.DeepOf(empty); ok != (deep < impl.MaxDeep) || ok && d != deep+1 || !ok && d != 0 {
			t.Errorf("an empty list in %d: %d, %v", deep, d, ok)
		}
		checkItems(t, empty)
		late := append(items(list(3), num(1), list(0)), nested(deep)...)
		checkItems(t, late)
	}
	wantGood(t, "many side by side", append(items(list(impl.MaxItems-1)), slices.Repeat(items(list(0)), impl.MaxItems-1)...))
	wantUnread(t, "lists alone", strings.Repeat("\x81", impl.MaxBytes))
	wantUnread(t, "lists and an empty one", strings.Repeat("\x81", impl.MaxBytes-1)+"\x80")
}

// nested is an empty list in deep others.
func nested(deep int) []impl.Item {
	return append(slices.Repeat(items(list(1)), deep), list(0))
}

func TestItemsMaxBytes(t *testing.T) {
	for _, make := range []func(string) impl.Item{raw, text} {
		for last := range 40 {
			l := items(list(7))
			for range 6 {
				l = append(l, make(strings.Repeat("q", impl.MaxString)))
			}
			l = append(l, make(strings.Repeat("r", last)))
			s := ""
			for _, x := range l {
				s += plainItemBytes(x)
			}
			fits := len(s) <= impl.MaxBytes
			if good := checkItems(t, l); good != fits {
				t.Errorf("%d bytes: %v", len(s), good)
			}
			if back, ok := impl.ReadItems(s); ok != fits || ok != slices.Equal(back, l) || !ok && len(back) != 0 {
				t.Errorf("%d bytes read: %v, %v", len(s), back, ok)
			}
			if last == 25 && (len(s) != impl.MaxBytes || !fits) {
				t.Errorf("%d bytes are to be MaxBytes", len(s))
			}
		}
	}
	wantBad(t, "far too many bytes", append(items(list(39)), slices.Repeat(items(raw(mixedBytes(60))), 39)...))
}

func TestItemsBehindTheirLength(t *testing.T) {
	for _, behind := range items(num(3), impl.Item{Kind: 9}) {
		memory := items(list(2), num(500), text("ab"), behind, behind)
		was := slices.Clone(memory)
		if s, ok := impl.ItemsBytes(memory[:3]); s != "\x82\x19\x01\xf4\x62ab" || !ok {
			t.Errorf("%x, %v", s, ok)
		}
		wantBad(t, "a list cut short", memory[:2])
		wantBad(t, "one too many", memory[:4])
		if d, ok := impl.DeepOf(memory[:3]); d != 1 || !ok || !impl.GoodItems(memory[:3]) {
			t.Errorf("%d, %v", d, ok)
		}
		if !slices.Equal(memory, was) {
			t.Errorf("written into: %v", memory)
		}
	}
}

func TestReadItemsNewMemory(t *testing.T) {
	s := "\x82\x42ab\x62cd"
	a, _ := impl.ReadItems(s)
	b, _ := impl.ReadItems(s)
	if len(a) != 3 || len(b) != 3 {
		t.Fatal(a, b)
	}
	clear(a)
	a = append(a[:0], num(1), num(1), num(1))
	c, _ := impl.ReadItems(s)
	want := items(list(2), raw("ab"), text("cd"))
	if !slices.Equal(b, want) || !slices.Equal(c, want) || len(a) != 3 {
		t.Errorf("answers share memory: %v, %v", b, c)
	}
}
