package tests

import (
	"fmt"
	"math"
	"math/rand"
	"slices"
	"strings"
	"testing"
	"unsafe"

	"loop.example/g00315/impl"
)

func whole() impl.Bundle {
	return impl.Bundle{From: 1, To: 2, Made: 10, No: 3, Life: 5, Hops: 2, Payload: "hello"}
}

func piece() impl.Bundle {
	return impl.Bundle{From: 7, To: 40, Group: true, Made: 300, No: 999, Life: 70000, Hops: 30, Offset: 4, Total: 9, Payload: "world"}
}

// plainGood adds up in floats, which don't wrap round, and takes one fault after the other.
func plainGood(b impl.Bundle) bool {
	for _, x := range []struct{ n, least, most int }{
		{b.From, 0, 40}, {b.To, 0, 40}, {b.Made, 0, 1000000}, {b.No, 0, 1000}, {b.Life, 1, 1000000}, {b.Hops, 0, 30},
		{b.Total, 0, 60}, {b.Offset, 0, 60}, {len(b.Payload), 0, 60},
	} {
		if x.n < x.least || x.n > x.most {
			return false
		}
	}
	if b.Total == 0 {
		return b.Offset == 0
	}
	return b.Payload != "" && float64(b.Offset)+float64(len(b.Payload)) <= float64(b.Total)
}

// plainRow are the nine numbers, in their order.
func plainRow(b impl.Bundle) []int {
	group := 0
	if b.Group {
		group = 1
	}
	return []int{b.From, b.To, group, b.Made, b.No, b.Life, b.Hops, b.Offset, b.Total}
}

// plainBundle builds the bytes without the program, of a bundle of any kind.
func plainBundle(row []int, payload string) string {
	s := plainHead(4, len(row)+1)
	for _, n := range row {
		s += plainHead(0, n)
	}
	return plainWithCrc(s + plainHead(2, len(payload)) + payload)
}

// checkBundle asks all functions for what the document tells of b, good or not.
func checkBundle(t *testing.T, b impl.Bundle) bool {
	t.Helper()
	good := plainGood(b)
	if ok := impl.GoodBundle(b); ok != good {
		t.Fatalf("GoodBundle(%#v) = %v", b, ok)
	}
	if !good {
		checkRefused(t, b)
		return false
	}
	want := plainBundle(plainRow(b), b.Payload)
	if s, ok := impl.BundleBytes(b); s != want || !ok {
		t.Fatalf("BundleBytes(%#v) = %x, %v, not %x", b, s, ok, want)
	}
	if back, ok := impl.ReadBundle(want); back != b || !ok {
		t.Fatalf("ReadBundle(%x) = %#v, %v, not %#v", want, back, ok, b)
	}
	if id, ok := impl.IdOf(b); id != fmt.Sprintf("%d.%d.%d", b.From, b.Made, b.No) || !ok {
		t.Fatalf("IdOf(%#v) = %s, %v", b, id, ok)
	}
	if same, ok := impl.SameBundle(b, b); !same || !ok {
		t.Fatalf("SameBundle(%#v, itself) = %v, %v", b, same, ok)
	}
	checkHop(t, b)
	for _, now := range []int{-1, 0, 1, b.Made + b.Life - 1, b.Made + b.Life, b.Made + b.Life + 1, 2 * impl.MaxTime, 2*impl.MaxTime + 1} {
		checkOver(t, b, now)
	}
	return true
}

func checkRefused(t *testing.T, b impl.Bundle) {
	t.Helper()
	if s, ok := impl.BundleBytes(b); s != "" || ok {
		t.Fatalf("BundleBytes(%#v) = %x, %v", b, s, ok)
	}
	if id, ok := impl.IdOf(b); id != "" || ok {
		t.Fatalf("IdOf(%#v) = %s, %v", b, id, ok)
	}
	if h, ok := impl.HopBundle(b); h != (impl.Bundle{}) || ok {
		t.Fatalf("HopBundle(%#v) = %#v, %v", b, h, ok)
	}
	for _, now := range []int{-1, 0, 16, 2 * impl.MaxTime, 2*impl.MaxTime + 1} {
		if over, ok := impl.IsOver(b, now); over || ok {
			t.Fatalf("IsOver(%#v, %d) = %v, %v", b, now, over, ok)
		}
	}
	for _, x := range [][2]impl.Bundle{{b, b}, {b, whole()}, {whole(), b}} {
		if same, ok := impl.SameBundle(x[0], x[1]); same || ok {
			t.Fatalf("SameBundle(%#v) = %v, %v", x, same, ok)
		}
	}
}

func checkHop(t *testing.T, b impl.Bundle) {
	t.Helper()
	want := impl.Bundle{}
	if b.Hops > 0 {
		want = b
		want.Hops--
	}
	was := b
	if h, ok := impl.HopBundle(b); h != want || ok != (b.Hops > 0) {
		t.Fatalf("HopBundle(%#v) = %#v, %v", b, h, ok)
	}
	if b != was {
		t.Fatalf("written into: %#v, once %#v", b, was)
	}
}

func checkOver(t *testing.T, b impl.Bundle, now int) {
	t.Helper()
	in := now >= 0 && now <= 2*impl.MaxTime
	over, ok := impl.IsOver(b, now)
	if ok != in || over != (in && now > b.Made+b.Life) {
		t.Fatalf("IsOver(%#v, %d) = %v, %v", b, now, over, ok)
	}
}

// wantNoBundle asks for the zero answer.
func wantNoBundle(t *testing.T, what string, s string) {
	t.Helper()
	if b, ok := impl.ReadBundle(s); b != (impl.Bundle{}) || ok {
		t.Errorf("%s: ReadBundle(%x) = %#v, %v", what, s, b, ok)
	}
}

// numberFields are where each of a bundle's numbers stands, with its least and its greatest by itself.
func numberFields(b *impl.Bundle) []struct {
	name        string
	field       *int
	least, most int
} {
	return []struct {
		name        string
		field       *int
		least, most int
	}{
		{"From", &b.From, 0, impl.MaxNode}, {"To", &b.To, 0, impl.MaxNode}, {"Made", &b.Made, 0, impl.MaxTime},
		{"No", &b.No, 0, 1000}, {"Life", &b.Life, 1, impl.MaxTime}, {"Hops", &b.Hops, 0, 30},
	}
}

// someBundle is a good one, of any kind, often at its bounds.
func someBundle(r *rand.Rand) impl.Bundle {
	b := impl.Bundle{Group: r.Intn(2) == 0, Payload: mixedBytes(r.Intn(impl.MaxPayload + 1))}
	for _, x := range numberFields(&b) {
		switch r.Intn(4) {
		case 0:
			*x.field = x.least
		case 1:
			*x.field = x.most
		default:
			*x.field = x.least + r.Intn(x.most-x.least+1)
		}
	}
	if b.Payload != "" && r.Intn(2) == 0 {
		b.Total = len(b.Payload) + r.Intn(impl.MaxPayload-len(b.Payload)+1)
		b.Offset = r.Intn(b.Total - len(b.Payload) + 1)
	}
	return b
}

func TestBundleKnown(t *testing.T) {
	for _, c := range []struct {
		b  impl.Bundle
		s  string
		id string
	}{
		{impl.Bundle{Life: 1}, "\x8a\x00\x00\x00\x00\x00\x01\x00\x00\x00\x40", "0.0.0"},
		{whole(), "\x8a\x01\x02\x00\x0a\x03\x05\x02\x00\x00\x45hello", "1.10.3"},
		{piece(), "\x8a\x07\x18\x28\x01\x19\x01\x2c\x19\x03\xe7\x1a\x00\x01\x11\x70\x18\x1e\x04\x09\x45world", "7.300.999"},
		{
			impl.Bundle{From: 40, To: 40, Group: true, Made: 1000000, No: 1000, Life: 1000000, Hops: 30, Total: 60, Payload: strings.Repeat("\xff", 60)},
			"\x8a\x18\x28\x18\x28\x01\x1a\x00\x0f\x42\x40\x19\x03\xe8\x1a\x00\x0f\x42\x40\x18\x1e\x00\x18\x3c\x58\x3c" + strings.Repeat("\xff", 60),
			"40.1000000.1000",
		},
	} {
		want := plainWithCrc(c.s)
		if s, ok := impl.BundleBytes(c.b); s != want || !ok {
			t.Errorf("BundleBytes(%#v) = %x, %v, not %x", c.b, s, ok, want)
		}
		if b, ok := impl.ReadBundle(want); b != c.b || !ok {
			t.Errorf("ReadBundle(%x) = %#v, %v", want, b, ok)
		}
		if id, ok := impl.IdOf(c.b); id != c.id || !ok {
			t.Errorf("IdOf(%#v) = %s, %v", c.b, id, ok)
		}
		if !checkBundle(t, c.b) {
			t.Errorf("%#v is not good", c.b)
		}
	}
}

func TestBundleThereAndBack(t *testing.T) {
	r := rand.New(rand.NewSource(6))
	for range 20000 {
		b := someBundle(r)
		if !checkBundle(t, b) {
			t.Fatalf("%#v is not good", b)
		}
	}
}

func TestBundleBytesEachTurned(t *testing.T) {
	r := rand.New(rand.NewSource(7))
	l := []impl.Bundle{{Life: 1}, whole(), piece()}
	for range 8 {
		l = append(l, someBundle(r))
	}
	for _, b := range l {
		s, ok := impl.BundleBytes(b)
		if !ok {
			t.Fatalf("%#v has no bytes", b)
		}
		for at := range len(s) {
			turned := []byte(s)
			for by := 1; by < 256; by++ {
				turned[at] = s[at] ^ byte(by)
				if back, ok := impl.ReadBundle(string(turned)); back != (impl.Bundle{}) || ok {
					t.Fatalf("of %#v, the byte at %d turned by %d: %#v, %v", b, at, by, back, ok)
				}
			}
		}
	}
}

func TestBundleFieldBounds(t *testing.T) {
	for _, from := range []impl.Bundle{whole(), piece()} {
		for at := range numberFields(&from) {
			b := from
			x := numberFields(&b)[at]
			for _, n := range []int{x.least, x.least + 1, x.most - 1, x.most} {
				if *x.field = n; !checkBundle(t, b) {
					t.Errorf("%s %d is not good", x.name, n)
				}
			}
			for _, n := range []int{
				x.least - 1, -1, -x.most, math.MinInt, x.most + 1, 2 * x.most, impl.MaxValue, impl.MaxValue + 1, 1 << 32, 1<<32 + 1, math.MaxInt,
			} {
				if *x.field = n; checkBundle(t, b) {
					t.Errorf("%s %d is good", x.name, n)
				}
				if n >= 0 && n <= impl.MaxValue {
					wantNoBundle(t, x.name, plainBundle(plainRow(b), b.Payload))
				}
			}
		}
	}
}

func TestBundleAllAtTheirBounds(t *testing.T) {
	for mask := range 1 << 6 {
		b := impl.Bundle{Payload: "x"}
		for at, x := range numberFields(&b) {
			*x.field = x.least
			if mask>>at&1 == 1 {
				*x.field = x.most
			}
		}
		for _, group := range []bool{false, true} {
			if b.Group = group; !checkBundle(t, b) {
				t.Errorf("%#v is not good", b)
			}
		}
	}
}

func TestBundlePayloads(t *testing.T) {
	for many := range impl.MaxPayload + 5 {
		b := whole()
		b.Payload = mixedBytes(many)
		if good := checkBundle(t, b); good != (many <= impl.MaxPayload) {
			t.Errorf("a payload of %d bytes: %v", many, good)
		}
		if many > impl.MaxPayload {
			wantNoBundle(t, "too long a payload", plainBundle(plainRow(b), b.Payload))
		}
		for _, total := range []int{many, impl.MaxPayload} {
			if b.Total = total; checkBundle(t, b) != (many > 0 && many <= impl.MaxPayload || total == 0 && many == 0) {
				t.Errorf("of %d, a payload of %d bytes", total, many)
			}
		}
	}
	b := whole()
	b.Payload = strings.Repeat("a", 100000)
	if checkBundle(t, b) {
		t.Error("far too long a payload")
	}
	for c := range 256 {
		if b.Payload = string([]byte{byte(c)}); !checkBundle(t, b) {
			t.Errorf("the byte %d is no payload", c)
		}
	}
}

func TestBundlePieces(t *testing.T) {
	good := 0
	for total := -2; total <= impl.MaxPayload+2; total++ {
		for offset := -2; offset <= impl.MaxPayload+2; offset++ {
			for _, many := range []int{0, 1, 2, 30, 59, 60, 61, total - offset - 1, total - offset, total - offset + 1} {
				if many < 0 || many > 70 {
					continue
				}
				b := piece()
				b.Offset, b.Total, b.Payload = offset, total, strings.Repeat("p", many)
				if checkBundle(t, b) {
					good++
				} else if offset >= 0 && total >= 0 {
					wantNoBundle(t, "a piece out of its place", plainBundle(plainRow(b), b.Payload))
				}
			}
		}
	}
	if good < 3000 {
		t.Errorf("only %d were good", good)
	}
}

func TestBundlePiecesNamedEdges(t *testing.T) {
	for _, c := range []struct {
		offset, total int
		payload       string
		good          bool
	}{
		{0, 0, "", true}, {0, 0, "a", true}, {0, 0, strings.Repeat("a", 60), true}, // whole
		{1, 0, "", false}, {1, 0, "a", false}, {-1, 0, "a", false}, {60, 0, "a", false},
		{0, 1, "a", true}, {0, 1, "ab", false}, {1, 1, "a", false}, {-1, 1, "a", false},
		{59, 60, "a", true}, {60, 60, "a", false}, {59, 60, "ab", false}, {58, 60, "ab", true},
		{0, 60, strings.Repeat("a", 60), true}, {1, 60, strings.Repeat("a", 60), false}, {0, 59, strings.Repeat("a", 60), false},
		{0, 61, "a", false}, {60, 61, "a", false}, {0, 61, strings.Repeat("a", 61), false}, {0, -1, "a", false},
		{0, 1, "", false}, {0, 60, "", false}, {60, 60, "", false}, {30, 60, "", false}, // empty pieces
	} {
		b := whole()
		b.Offset, b.Total, b.Payload = c.offset, c.total, c.payload
		if good := checkBundle(t, b); good != c.good {
			t.Errorf("%d of %d, %d bytes: %v", c.offset, c.total, len(c.payload), good)
		}
	}
}

func TestBundlePlacesThatWrapRound(t *testing.T) {
	far := []int{math.MinInt, math.MinInt + 1, math.MinInt + 5, -1 << 32, 1 << 32, math.MaxInt - 5, math.MaxInt - 4, math.MaxInt - 1, math.MaxInt}
	for _, n := range far {
		for _, m := range append([]int{-5, -1, 0, 1, 5, 9, 60}, far...) {
			for _, payload := range []string{"", "a", "hello", strings.Repeat("a", 60)} {
				b := whole()
				b.Payload = payload
				if b.Offset, b.Total = n, m; checkBundle(t, b) {
					t.Errorf("%#v is good", b)
				}
				if b.Offset, b.Total = m, n; checkBundle(t, b) {
					t.Errorf("%#v is good", b)
				}
			}
		}
	}
}

func TestIsOver(t *testing.T) {
	for _, made := range []int{0, 1, 10, impl.MaxTime - 1, impl.MaxTime} {
		for _, life := range []int{1, 2, 5, impl.MaxTime - 1, impl.MaxTime} {
			for _, b := range []impl.Bundle{whole(), piece()} {
				b.Made, b.Life = made, life
				for _, now := range []int{
					0, 1, made, life, made + life - 1, made + life, made + life + 1, 2*impl.MaxTime - 1, 2 * impl.MaxTime,
					-1, -2 * impl.MaxTime, math.MinInt, 2*impl.MaxTime + 1, impl.MaxValue, math.MaxInt,
				} {
					checkOver(t, b, now)
				}
			}
		}
	}
	b := whole()
	b.Made, b.Life = impl.MaxTime, impl.MaxTime
	if over, ok := impl.IsOver(b, 2*impl.MaxTime); over || !ok {
		t.Errorf("the longest at the last time: %v, %v", over, ok)
	}
	b.Life--
	if over, ok := impl.IsOver(b, 2*impl.MaxTime); !over || !ok {
		t.Errorf("one less at the last time: %v, %v", over, ok)
	}
}

func TestHopBundleToTheLast(t *testing.T) {
	for _, b := range []impl.Bundle{whole(), piece()} {
		b.Hops = 30
		now := b
		for hops := 29; hops >= 0; hops-- {
			next, ok := impl.HopBundle(now)
			want := b
			want.Hops = hops
			if next != want || !ok {
				t.Fatalf("%#v, %v, not %#v", next, ok, want)
			}
			if same, ok := impl.SameBundle(next, b); !same || !ok {
				t.Fatalf("%#v is another one: %v, %v", next, same, ok)
			}
			now = next
		}
		if next, ok := impl.HopBundle(now); next != (impl.Bundle{}) || ok {
			t.Errorf("without a hop: %#v, %v", next, ok)
		}
	}
}

func TestSameBundle(t *testing.T) {
	a := whole()
	other := impl.Bundle{From: 1, To: 9, Group: true, Made: 10, No: 3, Life: 77, Hops: 0, Offset: 1, Total: 4, Payload: "xyz"}
	wantSame(t, a, other, true)
	for _, change := range []func(*impl.Bundle){
		func(b *impl.Bundle) { b.From = 2 },
		func(b *impl.Bundle) { b.Made = 11 },
		func(b *impl.Bundle) { b.No = 4 },
		func(b *impl.Bundle) { b.From, b.Made = 11, 0 },
		func(b *impl.Bundle) { b.Made, b.No = 1, 3 },
		func(b *impl.Bundle) { b.Made, b.No = 3, 10 },
	} {
		for _, b := range []impl.Bundle{a, other} {
			change(&b)
			wantSame(t, a, b, false)
		}
	}
	// The same digits, but for where they part.
	wantSame(t, impl.Bundle{From: 1, Made: 11, No: 1, Life: 1}, impl.Bundle{From: 11, Made: 1, No: 1, Life: 1}, false)
	wantSame(t, impl.Bundle{From: 1, Made: 11, No: 1, Life: 1}, impl.Bundle{From: 1, Made: 1, No: 11, Life: 1}, false)
	r := rand.New(rand.NewSource(8))
	for range 5000 {
		b, c := someBundle(r), someBundle(r)
		wantSame(t, b, c, b.From == c.From && b.Made == c.Made && b.No == c.No)
		c.From, c.Made, c.No = b.From, b.Made, b.No
		wantSame(t, b, c, true)
	}
}

func wantSame(t *testing.T, a impl.Bundle, b impl.Bundle, want bool) {
	t.Helper()
	for _, x := range [][2]impl.Bundle{{a, b}, {b, a}} {
		if same, ok := impl.SameBundle(x[0], x[1]); same != want || !ok {
			t.Errorf("SameBundle(%#v, %#v) = %v, %v", x[0], x[1], same, ok)
		}
	}
}

func TestReadBundleOtherValues(t *testing.T) {
	row := []impl.Item{list(10), num(1), num(2), num(0), num(10), num(3), num(5), num(2), num(0), num(0), raw("hello")}
	wantRead := func(what string, l []impl.Item, want bool) {
		t.Helper()
		s, ok := impl.ItemsBytes(l)
		if !ok {
			t.Fatalf("%s is no value", what)
		}
		if _, ok := impl.ReadBundle(plainWithCrc(s)); ok != want {
			t.Errorf("%s: %v", what, ok)
		}
		if !want {
			wantNoBundle(t, what, plainWithCrc(s))
		}
	}
	wantRead("a bundle", row, true)
	for at := 1; at <= 10; at++ {
		for _, x := range items(num(0), num(1), raw(""), raw("\x00"), text(""), text("hello"), list(0)) {
			if at < 10 && x.Kind == impl.ItemNumber || at == 10 && x.Kind == impl.ItemBytes {
				continue
			}
			l := slices.Clone(row)
			l[at] = x
			wantRead("one of another kind", l, false)
		}
		l := slices.Delete(slices.Clone(row), at, at+1)
		l[0].Many--
		wantRead("one too few", l, false)
		for _, x := range items(num(0), raw("")) {
			l = slices.Insert(slices.Clone(row), at, x)
			l[0].Many++
			wantRead("one too many", l, false)
		}
		l = slices.Insert(slices.Clone(row), at, list(1))
		wantRead("a list around one", l, false)
		l = slices.Insert(slices.Clone(row), at, list(11-at))
		l[0].Many = at
		wantRead("a list around the others", l, false)
	}
	for _, group := range []int{2, 3, 255, impl.MaxValue} {
		l := slices.Clone(row)
		l[3] = num(group)
		wantRead("a group that is neither 0 nor 1", l, false)
	}
	wantRead("one more behind", append(items(list(11)), append(slices.Clone(row)[1:], num(0))...), false)
	wantRead("a list around it", append(items(list(1)), row...), false)
	for _, l := range [][]impl.Item{items(num(7)), items(raw("hello")), items(text("hello")), items(list(0))} {
		wantRead("another value", l, false)
	}
	wantRead("ten numbers", append(slices.Clone(row)[:10], num(5)), false)
	wantRead("ten payloads", append(items(list(10)), slices.Repeat(items(raw("a")), 10)...), false)
}

func TestReadBundleWrong(t *testing.T) {
	for _, b := range []impl.Bundle{whole(), piece(), {Life: 1}} {
		s := plainBundle(plainRow(b), b.Payload)
		body := s[:len(s)-2]
		for many := range len(s) {
			wantNoBundle(t, "cut short", s[:many])
			wantNoBundle(t, "begun too late", s[len(s)-many:])
		}
		for many := range len(body) {
			wantNoBundle(t, "cut short, with its sum", plainWithCrc(body[:many]))
		}
		for _, x := range []string{"\x00", "\x40", "\xff", s} {
			wantNoBundle(t, "bytes behind", s+x)
			wantNoBundle(t, "bytes behind, with their sum", plainWithCrc(body+x))
			wantNoBundle(t, "bytes ahead, with their sum", plainWithCrc(x+body))
		}
		wantNoBundle(t, "without a sum", body)
		wantNoBundle(t, "a sum of noughts", body+"\x00\x00")
		wantNoBundle(t, "the sum's lower byte first", body+string([]byte{s[len(s)-1], s[len(s)-2]}))
		wantNoBundle(t, "two sums", plainWithCrc(s))
		wantNoBundle(t, "longer than need be", plainWithCrc("\x98\x0a"+body[1:]))
		wantNoBundle(t, "a list without a length", plainWithCrc("\x9f"+body[1:]+"\xff"))
	}
	wantNoBundle(t, "a number longer than need be", plainWithCrc("\x8a\x18\x01\x02\x00\x0a\x03\x05\x02\x00\x00\x45hello"))
	wantNoBundle(t, "a group of false", plainWithCrc("\x8a\x01\x02\xf4\x0a\x03\x05\x02\x00\x00\x45hello"))
	wantNoBundle(t, "a number below 0", plainWithCrc("\x8a\x01\x02\x00\x0a\x03\x05\x02\x20\x00\x45hello"))
	for _, many := range []int{0, 1, 2, 3, 12, 100, impl.MaxBytes - 3, impl.MaxBytes - 2, impl.MaxBytes - 1, impl.MaxBytes, 5000} {
		wantNoBundle(t, "bytes of any kind", mixedBytes(many))
		wantNoBundle(t, "bytes of any kind, with their sum", plainWithCrc(mixedBytes(many)))
		wantNoBundle(t, "noughts, with their sum", plainWithCrc(strings.Repeat("\x00", many)))
	}
}

func TestReadBundleOneFormAlone(t *testing.T) {
	r := rand.New(rand.NewSource(9))
	good := 0
	for range 60000 {
		b := someBundle(r)
		s := plainBundle(plainRow(b), b.Payload)
		turned := []byte(s[:len(s)-2])
		turned[r.Intn(len(turned))] = byte(r.Intn(256))
		s = plainWithCrc(string(turned)) // turned, and its sum made anew
		got, ok := impl.ReadBundle(s)
		if !ok && got != (impl.Bundle{}) {
			t.Fatalf("%x: %#v beside false", s, got)
		}
		if !ok {
			continue
		}
		good++
		if back, ok := impl.BundleBytes(got); back != s || !ok || !plainGood(got) {
			t.Fatalf("%x was read as %#v, of which %x, %v", s, got, back, ok)
		}
	}
	if good < 5000 {
		t.Errorf("only %d were bundles", good)
	}
}

func TestBundlesNewMemory(t *testing.T) {
	b := whole()
	b.Payload = strings.Clone(b.Payload)
	h, _ := impl.HopBundle(b)
	s, _ := impl.BundleBytes(b)
	back, ok := impl.ReadBundle(s)
	if h.Payload != b.Payload || back.Payload != b.Payload || !ok {
		t.Fatal(h, back)
	}
	if unsafe.StringData(h.Payload) == unsafe.StringData(b.Payload) {
		t.Error("HopBundle's answer shares its argument's memory")
	}
	first := uintptr(unsafe.Pointer(unsafe.StringData(s)))
	if at := uintptr(unsafe.Pointer(unsafe.StringData(back.Payload))); at >= first && at < first+uintptr(len(s)) {
		t.Error("ReadBundle's answer shares its argument's memory")
	}
}
