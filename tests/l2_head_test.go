package tests

import (
	"math"
	"math/rand"
	"slices"
	"strings"
	"testing"

	"loop.example/g00315/impl"
)

// plainTakeHead tells the least number for each count of bytes, where the program makes the head again.
func plainTakeHead(s string, at int) (int, int, int, bool) {
	if len(s) > impl.MaxBytes || at < 0 || at >= len(s) {
		return 0, 0, 0, false
	}
	major, mark, rest := int(s[at])/32, int(s[at])%32, s[at+1:]
	many, least := 0, 0
	switch {
	case mark < 24:
		return major, mark, at + 1, true
	case mark == 24:
		many, least = 1, 24
	case mark == 25:
		many, least = 2, 256
	case mark == 26:
		many, least = 4, 65536
	default:
		return 0, 0, 0, false
	}
	if len(rest) < many {
		return 0, 0, 0, false
	}
	n := 0
	for _, b := range []byte(rest[:many]) {
		n = 256*n + int(b)
	}
	if n < least || n > impl.MaxValue {
		return 0, 0, 0, false
	}
	return major, n, at + 1 + many, true
}

func checkTakeHead(t *testing.T, s string, at int) {
	t.Helper()
	major, n, behind, ok := impl.TakeHead(s, at)
	wantMajor, wantN, wantBehind, want := plainTakeHead(s, at)
	if major != wantMajor || n != wantN || behind != wantBehind || ok != want {
		t.Fatalf("TakeHead(%x, %d) = %d, %d, %d, %v, not %d, %d, %d, %v", s, at, major, n, behind, ok, wantMajor, wantN, wantBehind, want)
	}
}

// plainRead reads by plainTakeHead, with a row of how many values are still owed; it leaves the rest to plainItems.
func plainRead(s string) ([]impl.Item, bool) {
	var l []impl.Item
	at, owed := 0, 1
	for ; owed > 0; owed-- {
		major, n, behind, ok := plainTakeHead(s, at)
		if !ok {
			return nil, false
		}
		at = behind
		switch major {
		case 0:
			l = append(l, num(n))
		case 2, 3:
			if at+n > len(s) {
				return nil, false
			}
			l = append(l, impl.Item{Kind: major, Text: s[at : at+n]})
			at += n
		case 4:
			l = append(l, list(n))
			owed += n
		default:
			return nil, false
		}
	}
	if back, _, ok := plainItems(l); !ok || back != s {
		return nil, false
	}
	return l, true
}

func checkRead(t *testing.T, s string) bool {
	t.Helper()
	l, ok := impl.ReadItems(s)
	want, good := plainRead(s)
	if !slices.Equal(l, want) || ok != good {
		t.Fatalf("ReadItems(%x) = %v, %v, not %v, %v", s, l, ok, want, good)
	}
	if !ok {
		return false
	}
	if back, ok := impl.ItemsBytes(l); back != s || !ok {
		t.Fatalf("%x was read as %v, of which %x, %v", s, l, back, ok)
	}
	return true
}

func TestHeadOfKnown(t *testing.T) {
	for _, c := range []struct {
		major, n int
		s        string
	}{
		{0, 0, "\x00"}, {0, 23, "\x17"}, {0, 24, "\x18\x18"}, {1, 0, "\x20"}, {1, 99, "\x38\x63"},
		{2, 5, "\x45"}, {3, 60, "\x78\x3c"}, {4, 255, "\x98\xff"}, {4, 256, "\x99\x01\x00"}, {4, 300, "\x99\x01\x2c"},
		{5, 65535, "\xb9\xff\xff"}, {6, 65536, "\xda\x00\x01\x00\x00"}, {7, 23, "\xf7"}, {7, 24, "\xf8\x18"},
		{7, impl.MaxValue, "\xfa\x3b\x9a\xca\x00"},
	} {
		if s, ok := impl.HeadOf(c.major, c.n); s != c.s || !ok {
			t.Errorf("HeadOf(%d, %d) = %x, %v, not %x", c.major, c.n, s, ok, c.s)
		}
		if major, n, behind, ok := impl.TakeHead(c.s, 0); major != c.major || n != c.n || behind != len(c.s) || !ok {
			t.Errorf("TakeHead(%x) = %d, %d, %d, %v", c.s, major, n, behind, ok)
		}
	}
}

func TestHeadThereAndBack(t *testing.T) {
	l := append(headEdges(), edgeNumbers()...)
	for n := 0; n <= 70000; n += 7 {
		l = append(l, n)
	}
	for n := 70001; n <= impl.MaxValue; n += 99991 {
		l = append(l, n)
	}
	for _, n := range l {
		for major := range 8 {
			s, ok := impl.HeadOf(major, n)
			if s != plainHead(major, n) || !ok {
				t.Fatalf("HeadOf(%d, %d) = %x, %v", major, n, s, ok)
			}
			for _, b := range []string{"", "\x00", "\xff\xff\xff\xff\xff"} {
				gotMajor, got, behind, ok := impl.TakeHead("\x1a\xff"+s+b, 2)
				if gotMajor != major || got != n || behind != 2+len(s) || !ok {
					t.Fatalf("of %d, %d, with %x behind: %d, %d, %d, %v", major, n, b, gotMajor, got, behind, ok)
				}
			}
		}
	}
}

func TestHeadOfWrong(t *testing.T) {
	for major := range 8 {
		for _, n := range wrongNumbers() {
			if s, ok := impl.HeadOf(major, n); s != "" || ok {
				t.Errorf("HeadOf(%d, %d) = %x, %v", major, n, s, ok)
			}
		}
	}
	for _, major := range []int{-1, -8, 8, 9, 16, 256, 1 << 32, math.MinInt, math.MaxInt} {
		for _, n := range []int{0, 23, 24, 300, impl.MaxValue, -1} {
			if s, ok := impl.HeadOf(major, n); s != "" || ok {
				t.Errorf("HeadOf(%d, %d) = %x, %v", major, n, s, ok)
			}
		}
	}
}

func TestTakeHeadAllShort(t *testing.T) {
	some := []byte{0, 59, 255}
	for a := range 256 {
		for b := range 256 {
			s := string([]byte{byte(a), byte(b)})
			for at := -1; at <= 3; at++ {
				checkTakeHead(t, s, at)
			}
			if a%32 < 24 { // what follows does not count
				continue
			}
			for _, c := range some {
				for _, d := range some {
					for _, e := range some {
						long := s + string([]byte{c, d, e})
						for many := 3; many <= 5; many++ {
							checkTakeHead(t, long[:many], 0)
						}
					}
				}
			}
		}
	}
}

func TestTakeHeadNotTheShortest(t *testing.T) {
	for major := range 8 {
		first := byte(32 * major)
		for n := range 24 {
			wantNoHead(t, string([]byte{first + 24, byte(n)}))
		}
		for n := range 256 {
			wantNoHead(t, string([]byte{first + 25, 0, byte(n)}))
		}
		for n := 0; n < 65536; n += 5 {
			wantNoHead(t, string([]byte{first + 26, 0, 0, byte(n >> 8), byte(n)}))
		}
		for mark := byte(27); mark < 32; mark++ { // eight bytes, what is kept free, and lists without an end
			wantNoHead(t, string([]byte{first + mark, 0, 0, 0, 0, 0, 0, 0, 5}))
			wantNoHead(t, string([]byte{first + mark, 1, 2, 3, 4, 5, 6, 7, 8}))
			wantNoHead(t, string([]byte{first + mark}))
		}
		wantNoHead(t, plainHead(major, impl.MaxValue+1))
		wantNoHead(t, plainHead(major, 1<<32-1))
	}
}

// wantNoHead asks for the zero answer, and that no value begins so.
func wantNoHead(t *testing.T, s string) {
	t.Helper()
	if major, n, behind, ok := impl.TakeHead(s, 0); major != 0 || n != 0 || behind != 0 || ok {
		t.Errorf("TakeHead(%x) = %d, %d, %d, %v", s, major, n, behind, ok)
	}
	wantUnread(t, "no head", s)
	wantUnread(t, "no head in a list", "\x81"+s)
	wantUnread(t, "no head, and bytes behind", s+strings.Repeat("\x01", 40))
}

func TestTakeHeadEndsWithin(t *testing.T) {
	for major := range 8 {
		for _, n := range []int{24, 255, 256, 65535, 65536, impl.MaxValue} {
			s := plainHead(major, n)
			for many := range len(s) {
				wantUnreadHead(t, s[:many])
			}
		}
	}
}

func wantUnreadHead(t *testing.T, s string) {
	t.Helper()
	if major, n, behind, ok := impl.TakeHead(s, 0); major != 0 || n != 0 || behind != 0 || ok {
		t.Errorf("TakeHead(%x) = %d, %d, %d, %v", s, major, n, behind, ok)
	}
	wantUnread(t, "a head cut short", s)
}

func TestTakeHeadPlaces(t *testing.T) {
	s := "\x05\x19\x01\x2c"
	for _, at := range []int{-1, -4, math.MinInt, 4, 5, math.MaxInt} {
		if major, n, behind, ok := impl.TakeHead(s, at); major != 0 || n != 0 || behind != 0 || ok {
			t.Errorf("at %d: %d, %d, %d, %v", at, major, n, behind, ok)
		}
	}
	for _, at := range []int{-1, 0, 1} {
		if major, n, behind, ok := impl.TakeHead("", at); major != 0 || n != 0 || behind != 0 || ok {
			t.Errorf("of no bytes at %d: %d, %d, %d, %v", at, major, n, behind, ok)
		}
	}
	full := strings.Repeat("\x05", impl.MaxBytes-3) + "\x99\x01\x2c"
	for at := -1; at <= impl.MaxBytes+1; at++ {
		checkTakeHead(t, full, at)
		if major, n, behind, ok := impl.TakeHead(full+"\x01", at); major != 0 || n != 0 || behind != 0 || ok {
			t.Fatalf("of one byte too many at %d: %d, %d, %d, %v", at, major, n, behind, ok)
		}
	}
	if major, n, behind, ok := impl.TakeHead(full, impl.MaxBytes-3); major != 4 || n != 300 || behind != impl.MaxBytes || !ok {
		t.Errorf("at the end of MaxBytes: %d, %d, %d, %v", major, n, behind, ok)
	}
}

func TestReadItemsAllShort(t *testing.T) {
	checkRead(t, "")
	for a := range 256 {
		checkRead(t, string([]byte{byte(a)}))
		for b := range 256 {
			s := string([]byte{byte(a), byte(b)})
			checkRead(t, s)
			for _, c := range []byte{0, 23, 24, 32, 64, 65, 97, 127, 128, 129, 255} {
				checkRead(t, s+string([]byte{c}))
			}
		}
	}
}

func TestReadItemsOneFormAlone(t *testing.T) {
	r := rand.New(rand.NewSource(4))
	some := []byte{0, 1, 23, 0x18, 0x18, 0x19, 0x1a, 0x40, 0x41, 0x42, 0x60, 0x61, 0x62, 0x78, 0x80, 0x81, 0x81, 0x82, 0x82, 0x83, 0x98, 'a', ' ', 31, 127, 255}
	good := 0
	for range 300000 {
		b := make([]byte, r.Intn(12))
		for i := range b {
			b[i] = some[r.Intn(len(some))]
		}
		if checkRead(t, string(b)) {
			good++
		}
	}
	if good < 2000 {
		t.Errorf("only %d were values", good)
	}
}

func TestReadItemsTurnedAndCut(t *testing.T) {
	r := rand.New(rand.NewSource(5))
	for range 3000 {
		s, ok := impl.ItemsBytes(someValue(r, impl.MaxItems, impl.MaxDeep))
		if !ok {
			continue
		}
		checkRead(t, s)
		for many := range len(s) {
			wantUnread(t, "bytes that end within", s[:many])
		}
		for _, b := range []string{"\x00", "\x05", "\x40", "\x80", "\xff", s} {
			wantUnread(t, "bytes behind", s+b)
		}
		for range 20 {
			turned := []byte(s)
			turned[r.Intn(len(s))] = byte(r.Intn(256))
			checkRead(t, string(turned))
		}
	}
}

func TestReadItemsWrong(t *testing.T) {
	for _, s := range []string{
		"", "\x18\x05", "\x18\x17", "\x19\x00\xff", "\x1a\x00\x00\xff\xff", // longer than need be
		"\x58\x01a", "\x78\x01a", "\x98\x01\x05", "\x59\x00\x01a",
		"\x20", "\x38\x63", "\xa0", "\xa1\x01\x02", "\xc0\x05", "\xc1\x1a\x00\x01\x00\x00", "\xf4", "\xf5", "\xf6", "\xf7", "\xf9\x3c\x00", // other majors
		"\x81\x20", "\x82\x05\xf6", "\x9f\xff", "\x9f\x01\xff", "\x5f\x41a\xff", "\x7f\x61a\xff", // without a length
		"\x41", "\x42a", "\x61", "\x62a", "\x78\x3c" + strings.Repeat("a", 59), // ends within
		"\x78\x3d" + strings.Repeat("a", 61), "\x58\x3d" + strings.Repeat("a", 61), // too long
		"\x5a\x3b\x9a\xca\x00", "\x7a\x3b\x9a\xca\x00a", "\x9a\x3b\x9a\xca\x00", "\x9a\x3b\x9a\xca\x00\x01", // far too long
		"\x61\x1f", "\x61\x7f", "\x62\xc3\xa4", "\x61\x00", "\x61\xff", // not plain
		strings.Repeat("\x05", impl.MaxBytes), strings.Repeat("\x05", impl.MaxBytes+1), mixedBytes(5000),
	} {
		wantUnread(t, "wrong", s)
		checkRead(t, s)
	}
}
